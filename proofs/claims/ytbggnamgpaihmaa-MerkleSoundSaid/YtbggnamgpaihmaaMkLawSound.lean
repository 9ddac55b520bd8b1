import Derived.Test.YtbggnamgpaihmaaMkCopy
import Derived.Test.YtbggnamgpaihmaaMkSize
namespace Go.Proofs.Ytbggnamgpaihmaa
open Go Go.RowKit
def mixT (ss : List ByteArray) (k : Nat) : List ByteArray := ss.take k ++ noTags (ss.length - k)
theorem mixT_len {ss : List ByteArray} {k : Nat} (h : k ≤ ss.length) : (mixT ss k).length = ss.length := by
  unfold mixT
  rw [List.length_append, List.length_take, noTags_len]
  omega
theorem mixT_all (ss : List ByteArray) : mixT ss ss.length = ss := by
  unfold mixT
  rw [List.take_length, Nat.sub_self]
  exact List.append_nil _
theorem mixT_none (ss : List ByteArray) : mixT ss 0 = noTags ss.length := by unfold mixT; simp
theorem mixT_set {ss : List ByteArray} {k : Nat} {t : ByteArray} (h : ss[k]? = some t) : (mixT ss k).set k t = mixT ss (k + 1) := by
  have hk := (List.getElem?_eq_some_iff.1 h).1
  have e : ss[k] = t := by rw [List.getElem?_eq_getElem hk] at h; injection h
  unfold mixT noTags
  obtain ⟨m, hm⟩ : ∃ m, ss.length - k = m + 1 := ⟨ss.length - k - 1, by omega⟩
  have hl : (ss.take k).length = k := by rw [List.length_take]; omega
  rw [List.set_append_right _ _ (by omega), hl, Nat.sub_self, hm, List.replicate_succ, List.set_cons_zero, List.take_succ_eq_append_getElem hk, e, List.append_assoc, show ss.length - (k + 1) = m by omega]
  rfl
theorem backU_parts : ∀ {p w : List ByteArray} {x y : ByteArray}, backU p w = some (x, y) → (∃ a ∈ p, x = nodeB a) ∧ (∃ b ∈ w, y = nodeB b)
  | [], _, _, _, h => by simp [backU] at h
  | _ :: _, [], _, _, h => by simp [backU] at h
  | a :: p, b :: w, x, y, h => by
    rw [backU] at h
    cases hb : backU p w with
    | some z =>
      rw [hb] at h
      simp only at h
      have h2 : z = (x, y) := Option.some.inj h
      rw [h2] at hb
      obtain ⟨⟨a1, h3, h4⟩, b1, h5, h6⟩ := backU_parts hb
      exact ⟨⟨a1, by simp [h3], h4⟩, b1, by simp [h5], h6⟩
    | none =>
      rw [hb] at h
      simp only at h
      by_cases e : a = b
      · rw [if_pos e] at h; cases h
      · rw [if_neg e] at h
        have h2 := Prod.mk.inj (Option.some.inj h)
        exact ⟨⟨a, by simp, h2.1.symm⟩, b, by simp, h2.2.symm⟩
theorem nodeB_size (a : ByteArray) : (nodeB a).size = a.size + 1 := by
  unfold nodeB
  rw [ByteArray.size_append]
  show 1 + a.size = _
  omega
theorem clashI_size {n i : Int} {tag other : ByteArray} {path way : List ByteArray} {x y : ByteArray} {M : Nat} (h : clashI n i tag other path way = some (x, y)) (h1 : tag.size ≤ M) (h2 : other.size ≤ M) (h3 : ∀ t ∈ path, t.size ≤ M) (h4 : ∀ t ∈ way, t.size ≤ M) : x.size ≤ M + 9 ∧ y.size ≤ M + 9 := by
  unfold clashI at h
  split at h
  · have h := Option.some.inj h
    cases hb : backU path way with
    | none =>
      rw [hb] at h
      have h5 := Prod.mk.inj h
      rw [← h5.1, ← h5.2, leaf_size, leaf_size]
      omega
    | some z =>
      rw [hb] at h
      have h6 : z = (x, y) := h
      rw [h6] at hb
      obtain ⟨⟨a, ha, rfl⟩, b, hb2, rfl⟩ := backU_parts hb
      rw [nodeB_size, nodeB_size]
      have := h3 a ha
      have := h4 b hb2
      omega
  · cases h
set_option maxRecDepth 100000 in
set_option maxHeartbeats 8000000 in
theorem merkle_sound_law (A : Option Addr) (n c : Nat) (ss : List ByteArray) (i : Int) (other : ByteArray) (A3 : Option Addr) (n3 c3 : Nat) (way : List ByteArray) (w : World) (hS : Strs w w.heap.size A n ss) (hn : n < 10000000000000) (hz : (∀ s ∈ ss, s.size ≤ 140737488351232) ∧ (A = none → n = 0 ∧ c = 0) ∧ n ≤ c) (_ : (Lit.int .i64 i).wf = true) (ho : other.size ≤ 140737488351232)
    (hS3 : Strs w w.heap.size A3 n3 way) (hn3 : n3 < 10000000000000) (hz3 : (∀ s ∈ way, s.size ≤ 140737488351232) ∧ (A3 = none → n3 = 0 ∧ c3 = 0) ∧ n3 ≤ c3) :
    Calls Try.prog 7 #[.slice A n c, .int .i64 i, .string other, .slice A3 n3 c3] w fun en w' => en = .returned (.bool true) ∧ Below w.heap.size w w' := by
  have hlen := hS.1
  have H := hid (And.intro hS (And.intro hz (And.intro ho (And.intro hS3 (And.intro hn3 hz3)))))
  clear hS hz ho hS3 hn3 hz3
  by_cases g1 : 100 < n
  · have g1I : (n : Int) > 100 := by omega
    clear g1
    go_enter Try.func7, Try.ntmps7
    go_wp2_with (go_at_call 9; refine (alive10_any _).mono ?_; rintro en w1 ⟨rfl, hbA⟩)
    go_ret
    exact ⟨rfl, hbA⟩
  · have g1I : ¬ (n : Int) > 100 := by omega
    by_cases g2 : n = 0
    · subst g2
      go_enter Try.func7, Try.ntmps7
      go_wp2_with (go_at_call 9; refine (alive10_any _).mono ?_; rintro en w1 ⟨rfl, hbA⟩)
      go_ret
      exact ⟨rfl, hbA⟩
    · have g2I : ¬ (n : Int) = 0 := by omega
      have g2b : ((n : Int) == 0) = false := by simpa using g2I
      by_cases g3 : i < 0
      · clear g1 g2
        go_enter Try.func7, Try.ntmps7
        go_wp2_with (go_at_call 9; refine (alive10_any _).mono ?_; rintro en w1 ⟨rfl, hbA⟩)
        go_ret
        exact ⟨rfl, hbA⟩
      · by_cases g4 : i ≥ (n : Int)
        · clear g1 g2
          go_enter Try.func7, Try.ntmps7
          go_wp2_with (go_at_call 9; refine (alive10_any _).mono ?_; rintro en w1 ⟨rfl, hbA⟩)
          go_ret
          exact ⟨rfl, hbA⟩
        · have hz0 : (⟨#[]⟩ : ByteArray).size ≤ 140737488351232 := by decide
          have hsize := size_any (c := c3) ⟨#[]⟩ other 0 0 H.out.2.2.2.1 H.out.2.2.2.2.1 H.out.2.2.2.2.2.1 hz0 H.out.2.2.1
          obtain ⟨I, rfl⟩ : ∃ I : Nat, i = (I : Int) := ⟨i.toNat, by omega⟩
          have hIn : I < n := by omega
          have hn100 : n ≤ 100 := by omega
          have hn1 : 1 ≤ n := by omega
          have HZ := hid hsize
          have HN := hid (And.intro hIn (And.intro hn100 hn1))
          clear hsize g1 g2 hIn hn100 hn1 hz0
          go_enter Try.func7, Try.ntmps7
          go_wp2_with fail
          refine HZ.out.mono ?_
          rintro en w1 ⟨⟨Z, rfl, hsh⟩, hb1⟩
          have HB1 := hid hb1
          clear hb1
          by_cases g5 : 8192 < Z
          · have g5I : (Z : Int) > 8192 := by omega
            clear hsh g5
            go_wp2_with (go_at_call 9; refine (alive10_any _).mono ?_; rintro en w2 ⟨rfl, hbA⟩; have HBA := hid hbA; clear hbA)
            go_ret
            exact ⟨rfl, HB1.out.trans (HBA.out.mono HB1.out.size)⟩
          · have g5I : ¬ (Z : Int) > 8192 := by omega
            have g5d : decide ((8192 : Int) < (Z : Int)) = false := decide_eq_false (by omega)
            have HSh := hid (hsh (by omega))
            clear hsh g5
            go_wp2_with fail
            refine (new_tree_any n _ ⟨HN.out.2.2, by have := HN.out.2.1; omega⟩).mono ?_
            rintro en w2 ⟨⟨g, O, rfl, ht, hO, hg⟩, hb2⟩
            have hO2 : ∀ b, O b → w.heap.size ≤ b := fun b hb => Nat.le_trans HB1.out.size (hO b hb)
            have H2 := hid (And.intro ht (And.intro hO2 (HB1.out.trans (hb2.mono HB1.out.size))))
            clear ht hO hg hb2 hO2
            go_wp2
            go_loopg [11] n (fun k s11 wx => ∃ j : Nat, k + j = n ∧ s11 = .int .i64 j ∧ TreeAt wx O g (mixT ss j) ∧ Below w.heap.size w wx)
            case atStart => exact ⟨0, by omega, rfl, by rw [mixT_none, hlen]; exact H2.out.1, H2.out.2.2⟩
            case round =>
              obtain ⟨j, hk, rfl, ht, hb⟩ := hrel
              cases gk with
              | succ q =>
                have hj : j < n := by omega
                obtain ⟨b, o, E, rfl, hbw, hE, hcell⟩ := H.out.1.at_ hj
                have hcw : wr.cell? ⟨b, o + j, none⟩ = some (.string E) := (hb.cell (p := ⟨b, o + j, none⟩) hbw).trans hcell
                have hjI : (j : Int) < (n : Int) := by omega
                have hj9 : (j : Int) ≤ 100 := by have := HN.out.2.1; omega
                have hml : (mixT ss j).length = n := by rw [mixT_len (by omega)]; exact hlen
                by_cases hmay : E.size = 0 ∨ E.size = 32
                · have HH := hid (And.intro hk (And.intro ht (And.intro hb (And.intro hE (And.intro hml hmay)))))
                  clear hk ht hb hE hml hmay hbw hcell
                  go_wp2_with fail
                  refine (tree_set_any HH.out.2.1 (i := j) (by rw [HH.out.2.2.2.2.1]; omega) E HH.out.2.2.2.2.2).mono ?_
                  rintro en w3 ⟨rfl, ht3, hm3⟩
                  have H3 := hid (And.intro ht3 hm3)
                  clear ht3 hm3
                  go_wp2
                  go_roundg q
                  case measure => exact Nat.lt_succ_self q
                  case rel =>
                    have hb9 := HH.out.2.2.1
                    refine ⟨j + 1, by have := HH.out.1; omega, by go_num, by rw [← mixT_set HH.out.2.2.2.1]; exact H3.out.1, ?_⟩
                    exact below_moves hb9 H3.out.2 H2.out.2.1 (Nat.le_refl _)
                · have hbt : badTag E = true := by unfold badTag; rw [decide_eq_false hmay]; rfl
                  have hre : ∀ y, Below wr.heap.size wr y → Calls Try.prog 30 #[.pointer (some ⟨g, 0, none⟩), .int .i64 (j : Int), .bool (badTag E)] y fun en w' => en = .returned (.int .i64 2) ∧ y = w' := fun y hy => by
                    have := refused_any (ht.under hy) (j : Int) (badTag E)
                    rw [show whyN (mixT ss j).length (j : Int) (badTag E) = 2 from if_neg (fun e => by rw [hbt] at e; cases e.2.2)] at this
                    exact this
                  have hset := tree_set_no (some ⟨g, 0, none⟩) (j : Int) 2 E hre (by decide)
                  have HH := hid (And.intro hset hb)
                  clear hk ht hb hE hml hmay hbw hcell hre hset hbt
                  go_wp2_with fail
                  refine HH.out.1.mono ?_
                  rintro en w3 ⟨rfl, hb3⟩
                  have H3 := hid (HH.out.2.trans (hb3.mono HH.out.2.size))
                  clear hb3
                  go_wp2_with (go_at_call 9; refine (alive10_any _).mono ?_; rintro en w4 ⟨rfl, hbA⟩; have HBA := hid hbA; clear hbA)
                  go_ret
                  exact ⟨rfl, H3.out.trans (HBA.out.mono H3.out.size)⟩
              | zero =>
                obtain rfl : j = n := by omega
                rw [show mixT ss j = ss by rw [← hlen]; exact mixT_all ss] at ht
                obtain ⟨b, o, E, rfl, hbw, hE, hcell⟩ := H.out.1.at_ HN.out.1
                have hcw : ∀ y, Below w.heap.size w y → y.cell? ⟨b, o + I, none⟩ = some (.string E) := fun y hy => (hy.cell (p := ⟨b, o + I, none⟩) hbw).trans hcell
                have hEz : E.size ≤ 32 := ht.pos.2 E (List.mem_of_getElem? hE)
                have hpath := tree_path_any ht (i := I) (by rw [hlen]; exact HN.out.1)
                have hroot := fun (y : World) (t : TreeAt y O g ss) => tree_root_any t
                have hown := own_verified ss I E (by have := HN.out.2.1; omega) hE
                rw [hlen] at hpath hown
                have hpl : (pathS ss I).length ≤ 16384 := by rw [path_len, hlen]; exact hgt_16 (by have := HN.out.2.1; omega)
                have hpl2 : (pathS ss I).length = hgt j := by rw [path_len, hlen]
                have hp32 : ∀ t ∈ pathS ss I, t.size ≤ 256 := fun t ht => by
                  unfold pathS pathR at ht
                  obtain ⟨r, _, rfl⟩ := List.mem_map.1 ht
                  exact grp_cat_size (rowAt_32 (leaves_32 ss) r) _
                obtain ⟨PP, hPP⟩ : ∃ PP, pathS ss I = PP := ⟨_, rfl⟩
                rw [hPP] at hpath hown hpl hpl2 hp32
                obtain ⟨RT, hRT⟩ : ∃ RT, rootS ss = RT := ⟨_, rfl⟩
                rw [hRT] at hroot hown
                obtain ⟨Hn, hHn⟩ : ∃ H, hgt j = H := ⟨_, rfl⟩
                rw [hHn] at hpath hpl2
                have hjb : 1 ≤ j ∧ j ≤ 16384 := by have := HN.out.2.1; have := HN.out.2.2; omega
                have hv1 : ∀ (y : World) (A : Option Addr) (c : Nat), Strs y y.heap.size A Hn PP → Hn ≤ c → Calls Try.prog 23 #[.string RT, .int .i64 (j : Int), .int .i64 (I : Int), .string E, .slice A Hn c] y fun en w' => en = .returned (.bool true) ∧ Below y.heap.size y w' := fun y A c hS hc => by
                  have := verify_any RT (j : Int) (I : Int) E PP hS hc (by omega) (by omega) (fun t ht => by have := hp32 t ht; omega)
                  rw [verify_nat RT hjb HN.out.1, hown] at this
                  exact this
                obtain ⟨v, hv⟩ : ∃ v, verifyS RT j I other way = v := ⟨_, rfl⟩
                have hv2 : ∀ (y : World), Strs y y.heap.size A3 n3 way → Calls Try.prog 23 #[.string RT, .int .i64 (j : Int), .int .i64 (I : Int), .string other, .slice A3 n3 c3] y fun en w' => en = .returned (.bool v) ∧ Below y.heap.size y w' := fun y hS => by
                  have := verify_any RT (j : Int) (I : Int) other way hS H.out.2.2.2.2.2.2.2 (by have := HSh.out.2.2.1; omega) (by have := HSh.out.2.1; omega) (fun t ht => by have := HSh.out.2.2.2 t ht; omega)
                  rw [verify_nat RT hjb HN.out.1, hv] at this
                  exact this
                have hcl : ∀ (y : World) (A : Option Addr) (c : Nat), Strs y y.heap.size A Hn PP → Hn ≤ c → Strs y y.heap.size A3 n3 way → Calls Try.prog 24 #[.int .i64 (j : Int), .int .i64 (I : Int), .string E, .string other, .slice A Hn c, .slice A3 n3 c3] y fun en w' => en = .returned (clashV (clashS j I E other PP way)) ∧ Below y.heap.size y w' := fun y A c hS hc hS3 => by
                  have := clash_call (j : Int) (I : Int) E other PP way hS hS3 hc H.out.2.2.2.2.2.2.2 (by omega) (by have := HSh.out.2.2.1; omega) (by omega) (by have := HSh.out.2.1; omega) (fun t ht => by have := hp32 t ht; omega) (fun t ht => by have := HSh.out.2.2.2 t ht; omega)
                  rw [clashI_eq, if_pos (by have := HN.out.1; omega)] at this
                  exact this
                have hjI : ¬ (j : Int) < (j : Int) := by omega
                have hII : (I : Int) < (j : Int) := by have := HN.out.1; omega
                have hI2 : I < j := HN.out.1
                have HP := hid (And.intro hpath (And.intro hroot (And.intro hv1 (And.intro hv2 (And.intro hcl (And.intro hown (And.intro hv (And.intro hp32 (And.intro hEz (And.intro hcw (And.intro ht hb)))))))))))
                clear hpath hroot hv1 hv2 hcl hown hv hp32 hEz hcw ht hb hbw hcell hE hk hpl hPP hRT hHn hjb
                go_wp2_with fail
                refine HP.out.1.mono ?_
                rintro en w3 ⟨⟨Ap, cp, rfl, hop⟩, hb3⟩
                have hcap := own_cap hop
                have H3a := hid (And.intro hop (And.intro hcap (And.intro (HP.out.2.2.2.2.2.2.2.2.2.2.1.under hb3) (HP.out.2.2.2.2.2.2.2.2.2.2.2.trans (hb3.mono HP.out.2.2.2.2.2.2.2.2.2.2.2.size)))))
                clear hop hcap hb3
                go_wp2
                have hHeld : w3.drew.cell? ⟨b, o + I, none⟩ = some (.string E) := HP.out.2.2.2.2.2.2.2.2.2.1 _ H3a.out.2.2.2.drew
                refine wp_region_T (fun y => y.cell? ⟨b, o + I, none⟩ = some (.string E)) [] (by kernel_rfl) ?_
                refine wpAnyT_take (i := 0) (oi := { dst := some 75, op := _, type := _, pos := _, after := _, guard := _ }) (v := ?_) rfl (by kernel_rfl) (by kernel_rfl) (by kernel_rfl) (by kernel_rfl) (fun _ _ _ h => h) (Or.inl ⟨by kernel_rfl, ?_⟩) (by assumption) ?_
                rotate_left
                focus ((intro w hSw; (try dsimp only at hSw); (try (have hs1 := hSw.1; have hs2 := hSw.2; clear hSw)); (try (have hs3 := hs2.1; have hs4 := hs2.2; clear hs2)); (try (have hs5 := hs4.1; have hs6 := hs4.2; clear hs4)); (try (have hs7 := hs6.1; have hs8 := hs6.2; clear hs6)); go_simp) <;> with_reducible rfl)
                try simp only [Act.put, List.setIfInBounds_toArray, List.set_cons_zero, List.set_cons_succ]
                refine wpAnyT_take (i := 1) (oi := { dst := some 76, op := _, type := _, pos := _, after := _, guard := _ }) (v := ?_) rfl (by kernel_rfl) (by kernel_rfl) (by kernel_rfl) (by kernel_rfl) (fun _ _ _ h => h) (Or.inl ⟨by kernel_rfl, ?_⟩) (by assumption) ?_
                rotate_left
                focus ((intro w hSw; (try dsimp only at hSw); (try (have hs1 := hSw.1; have hs2 := hSw.2; clear hSw)); (try (have hs3 := hs2.1; have hs4 := hs2.2; clear hs2)); (try (have hs5 := hs4.1; have hs6 := hs4.2; clear hs4)); (try (have hs7 := hs6.1; have hs8 := hs6.2; clear hs6)); go_simp) <;> with_reducible rfl)
                try simp only [Act.put, List.setIfInBounds_toArray, List.set_cons_zero, List.set_cons_succ]
                refine wpAnyT_take (i := 2) (oi := { dst := some 77, op := _, type := _, pos := _, after := _, guard := _ }) (v := ?_) rfl (by kernel_rfl) (by kernel_rfl) (by kernel_rfl) (by kernel_rfl) (fun _ _ _ h => h) (Or.inl ⟨by kernel_rfl, ?_⟩) (by assumption) ?_
                rotate_left
                focus ((intro w hSw; (try dsimp only at hSw); (try (have hs1 := hSw.1; have hs2 := hSw.2; clear hSw)); (try (have hs3 := hs2.1; have hs4 := hs2.2; clear hs2)); (try (have hs5 := hs4.1; have hs6 := hs4.2; clear hs4)); (try (have hs7 := hs6.1; have hs8 := hs6.2; clear hs6)); go_simp) <;> with_reducible rfl)
                try simp only [Act.put, List.setIfInBounds_toArray, List.set_cons_zero, List.set_cons_succ]
                refine wpAnyT_take (i := 3) (oi := { dst := some 78, op := _, type := _, pos := _, after := _, guard := _ }) (v := ?_) rfl (by kernel_rfl) (by kernel_rfl) (by kernel_rfl) (by kernel_rfl) (fun _ _ _ h => h) (Or.inl ⟨by kernel_rfl, ?_⟩) (by assumption) ?_
                rotate_left
                focus ((intro w hSw; (try dsimp only at hSw); (try (have hs1 := hSw.1; have hs2 := hSw.2; clear hSw)); (try (have hs3 := hs2.1; have hs4 := hs2.2; clear hs2)); (try (have hs5 := hs4.1; have hs6 := hs4.2; clear hs4)); (try (have hs7 := hs6.1; have hs8 := hs6.2; clear hs6)); go_simp) <;> with_reducible rfl)
                try simp only [Act.put, List.setIfInBounds_toArray, List.set_cons_zero, List.set_cons_succ]
                refine wpAnyT_take (i := 5) (oi := { dst := some 80, op := _, type := _, pos := _, after := _, guard := _ }) (v := ?_) rfl (by kernel_rfl) (by kernel_rfl) (by kernel_rfl) (by kernel_rfl) (fun _ _ _ h => h) (Or.inl ⟨by kernel_rfl, ?_⟩) (by assumption) ?_
                rotate_left
                focus ((intro w hSw; (try dsimp only at hSw); (try (have hs1 := hSw.1; have hs2 := hSw.2; clear hSw)); (try (have hs3 := hs2.1; have hs4 := hs2.2; clear hs2)); (try (have hs5 := hs4.1; have hs6 := hs4.2; clear hs4)); (try (have hs7 := hs6.1; have hs8 := hs6.2; clear hs6)); go_simp) <;> with_reducible rfl)
                try simp only [Act.put, List.setIfInBounds_toArray, List.set_cons_zero, List.set_cons_succ]
                refine wpAnyT_take (i := 6) (oi := { dst := some 81, op := _, type := _, pos := _, after := _, guard := _ }) (v := ?_) rfl (by kernel_rfl) (by kernel_rfl) (by kernel_rfl) (by kernel_rfl) (fun _ _ _ h => h) (Or.inl ⟨by kernel_rfl, ?_⟩) (by assumption) ?_
                rotate_left
                focus ((intro w hSw; (try dsimp only at hSw); (try (have hs1 := hSw.1; have hs2 := hSw.2; clear hSw)); (try (have hs3 := hs2.1; have hs4 := hs2.2; clear hs2)); (try (have hs5 := hs4.1; have hs6 := hs4.2; clear hs4)); (try (have hs7 := hs6.1; have hs8 := hs6.2; clear hs6)); go_simp) <;> with_reducible rfl)
                try simp only [Act.put, List.setIfInBounds_toArray, List.set_cons_zero, List.set_cons_succ]
                refine wpAnyT_take (i := 7) (oi := { dst := some 82, op := _, type := _, pos := _, after := _, guard := _ }) (v := ?_) rfl (by kernel_rfl) (by kernel_rfl) (by kernel_rfl) (by kernel_rfl) (fun _ _ _ h => h) (Or.inl ⟨by kernel_rfl, ?_⟩) (by assumption) ?_
                rotate_left
                focus ((intro w hSw; (try dsimp only at hSw); (try (have hs1 := hSw.1; have hs2 := hSw.2; clear hSw)); (try (have hs3 := hs2.1; have hs4 := hs2.2; clear hs2)); (try (have hs5 := hs4.1; have hs6 := hs4.2; clear hs4)); (try (have hs7 := hs6.1; have hs8 := hs6.2; clear hs6)); go_simp) <;> with_reducible rfl)
                try simp only [Act.put, List.setIfInBounds_toArray, List.set_cons_zero, List.set_cons_succ]
                refine wpAnyT_take (i := 8) (oi := { dst := some 83, op := _, type := _, pos := _, after := _, guard := _ }) (v := ?_) rfl (by kernel_rfl) (by kernel_rfl) (by kernel_rfl) (by kernel_rfl) (fun _ _ _ h => h) (Or.inl ⟨by kernel_rfl, ?_⟩) (by assumption) ?_
                rotate_left
                focus ((intro w hSw; (try dsimp only at hSw); (try (have hs1 := hSw.1; have hs2 := hSw.2; clear hSw)); (try (have hs3 := hs2.1; have hs4 := hs2.2; clear hs2)); (try (have hs5 := hs4.1; have hs6 := hs4.2; clear hs4)); (try (have hs7 := hs6.1; have hs8 := hs6.2; clear hs6)); go_simp) <;> with_reducible rfl)
                try simp only [Act.put, List.setIfInBounds_toArray, List.set_cons_zero, List.set_cons_succ]
                refine wpAnyT_take (i := 9) (oi := { dst := some 84, op := _, type := _, pos := _, after := _, guard := _ }) (v := ?_) rfl (by kernel_rfl) (by kernel_rfl) (by kernel_rfl) (by kernel_rfl) (fun _ _ _ h => h) (Or.inl ⟨by kernel_rfl, ?_⟩) (by assumption) ?_
                rotate_left
                focus ((intro w hSw; (try dsimp only at hSw); (try (have hs1 := hSw.1; have hs2 := hSw.2; clear hSw)); (try (have hs3 := hs2.1; have hs4 := hs2.2; clear hs2)); (try (have hs5 := hs4.1; have hs6 := hs4.2; clear hs4)); (try (have hs7 := hs6.1; have hs8 := hs6.2; clear hs6)); go_simp) <;> with_reducible rfl)
                try simp only [Act.put, List.setIfInBounds_toArray, List.set_cons_zero, List.set_cons_succ]
                refine wpAnyT_take (i := 10) (oi := { dst := some 85, op := _, type := _, pos := _, after := _, guard := _ }) (v := ?_) rfl (by kernel_rfl) (by kernel_rfl) (by kernel_rfl) (by kernel_rfl) (fun _ _ _ h => h) (Or.inl ⟨by kernel_rfl, ?_⟩) (by assumption) ?_
                rotate_left
                focus ((intro w hSw; (try dsimp only at hSw); (try (have hs1 := hSw.1; have hs2 := hSw.2; clear hSw)); (try (have hs3 := hs2.1; have hs4 := hs2.2; clear hs2)); (try (have hs5 := hs4.1; have hs6 := hs4.2; clear hs4)); (try (have hs7 := hs6.1; have hs8 := hs6.2; clear hs6)); go_simp) <;> with_reducible rfl)
                try simp only [Act.put, List.setIfInBounds_toArray, List.set_cons_zero, List.set_cons_succ]
                refine wpAnyT_take (i := 11) (oi := { dst := some 86, op := _, type := _, pos := _, after := _, guard := _ }) (v := ?_) rfl (by kernel_rfl) (by kernel_rfl) (by kernel_rfl) (by kernel_rfl) (fun _ _ _ h => h) (Or.inl ⟨by kernel_rfl, ?_⟩) (by assumption) ?_
                rotate_left
                focus ((intro w hSw; (try dsimp only at hSw); (try (have hs1 := hSw.1; have hs2 := hSw.2; clear hSw)); (try (have hs3 := hs2.1; have hs4 := hs2.2; clear hs2)); (try (have hs5 := hs4.1; have hs6 := hs4.2; clear hs4)); (try (have hs7 := hs6.1; have hs8 := hs6.2; clear hs6)); go_simp) <;> with_reducible rfl)
                try simp only [Act.put, List.setIfInBounds_toArray, List.set_cons_zero, List.set_cons_succ]
                refine wpAnyT_take (i := 12) (oi := { dst := some 87, op := _, type := _, pos := _, after := _, guard := _ }) (v := ?_) rfl (by kernel_rfl) (by kernel_rfl) (by kernel_rfl) (by kernel_rfl) (fun _ _ _ h => h) (Or.inl ⟨by kernel_rfl, ?_⟩) (by assumption) ?_
                rotate_left
                focus ((intro w hSw; (try dsimp only at hSw); (try (have hs1 := hSw.1; have hs2 := hSw.2; clear hSw)); (try (have hs3 := hs2.1; have hs4 := hs2.2; clear hs2)); (try (have hs5 := hs4.1; have hs6 := hs4.2; clear hs4)); (try (have hs7 := hs6.1; have hs8 := hs6.2; clear hs6)); go_simp) <;> with_reducible rfl)
                try simp only [Act.put, List.setIfInBounds_toArray, List.set_cons_zero, List.set_cons_succ]
                refine wpAnyT_one (i := 4) (o := { dst := some 79, op := _, type := _, pos := _, after := _, guard := _ }) (by kernel_rfl) rfl (by kernel_rfl) (fun K hK => ?_)
                go_simp
                go_at_call 18
                refine (HP.out.2.1 _ (H3a.out.2.2.1.under (Below.refl _ _).drew)).mono ?_
                rintro en y4 ⟨rfl, hb4⟩
                have H4 := hid ((Below.refl w3.heap.size w3).drew.trans hb4)
                have hHeld := HP.out.2.2.2.2.2.2.2.2.2.1 _ (H3a.out.2.2.2.trans (H4.out.mono H3a.out.2.2.2.size))
                clear hb4
                refine hK.out _ _ (fun _ => hHeld) ?_
                clear hK K
                try simp only [Act.put, List.setIfInBounds_toArray, List.set_cons_zero, List.set_cons_succ]
                refine wpAnyT_one (i := 13) (o := { dst := some 88, op := _, type := _, pos := _, after := _, guard := _ }) (by kernel_rfl) rfl (by kernel_rfl) (fun K hK => ?_)
                go_simp
                go_at_call 23
                refine (HP.out.2.2.1 _ _ _ (by
                  obtain ⟨A9, c9, e9, hS9⟩ := strs_own (own_moved H3a.out.1 (Moves.of_below H4.out NoB) (fun _ _ e => e)) hpl2
                  obtain ⟨rfl, _, rfl⟩ := Value.slice.inj e9
                  exact hS9) H3a.out.2.1).mono ?_
                rintro en y5 ⟨rfl, hb5⟩
                have H5 := hid (H4.out.trans (hb5.mono H4.out.size))
                have hHeld := HP.out.2.2.2.2.2.2.2.2.2.1 _ (H3a.out.2.2.2.trans (H5.out.mono H3a.out.2.2.2.size))
                clear hb5
                refine hK.out _ _ (fun _ => hHeld) ?_
                clear hK K
                try simp only [Act.put, List.setIfInBounds_toArray, List.set_cons_zero, List.set_cons_succ]
                refine wpAnyT_take (i := 14) (oi := { dst := some 89, op := _, type := _, pos := _, after := _, guard := _ }) (v := ?_) rfl (by kernel_rfl) (by kernel_rfl) (by kernel_rfl) (by kernel_rfl) (fun _ _ _ h => h) (Or.inl ⟨by kernel_rfl, ?_⟩) (by assumption) ?_
                rotate_left
                focus ((intro w hSw; (try dsimp only at hSw); (try (have hs1 := hSw.1; have hs2 := hSw.2; clear hSw)); (try (have hs3 := hs2.1; have hs4 := hs2.2; clear hs2)); (try (have hs5 := hs4.1; have hs6 := hs4.2; clear hs4)); (try (have hs7 := hs6.1; have hs8 := hs6.2; clear hs6)); go_simp) <;> with_reducible rfl)
                try simp only [Act.put, List.setIfInBounds_toArray, List.set_cons_zero, List.set_cons_succ]
                refine wpAnyT_take (i := 15) (oi := { dst := some 90, op := _, type := _, pos := _, after := _, guard := _ }) (v := ?_) rfl (by kernel_rfl) (by kernel_rfl) (by kernel_rfl) (by kernel_rfl) (fun _ _ _ h => h) (Or.inl ⟨by kernel_rfl, ?_⟩) (by assumption) ?_
                rotate_left
                focus ((intro w hSw; (try dsimp only at hSw); (try (have hs1 := hSw.1; have hs2 := hSw.2; clear hSw)); (try (have hs3 := hs2.1; have hs4 := hs2.2; clear hs2)); (try (have hs5 := hs4.1; have hs6 := hs4.2; clear hs4)); (try (have hs7 := hs6.1; have hs8 := hs6.2; clear hs6)); go_simp) <;> with_reducible rfl)
                try simp only [Act.put, List.setIfInBounds_toArray, List.set_cons_zero, List.set_cons_succ]
                refine wpAnyT_done (by kernel_rfl) ?_ _
                have hB5 : Below w.heap.size w y5 := H3a.out.2.2.2.trans (H5.out.mono H3a.out.2.2.2.size)
                have hSp : ∀ z, Below y5.heap.size y5 z → Strs z z.heap.size Ap Hn PP ∧ Strs z z.heap.size A3 n3 way := fun z hz => by
                  obtain ⟨A9, c9, e9, hS9⟩ := strs_own (own_moved (own_moved H3a.out.1 (Moves.of_below H5.out NoB) (fun _ _ e => e)) (Moves.of_below hz NoB) (fun _ _ e => e)) hpl2
                  obtain ⟨rfl, _, rfl⟩ := Value.slice.inj e9
                  have hBz := hB5.trans (hz.mono hB5.size)
                  exact ⟨hS9, (H.out.2.2.2.1.under hBz).more hBz.size⟩
                have H6 := hid (And.intro (hSp y5 (Below.refl _ _)) hB5)
                have HSp := hid hSp
                have k5 := hHeld
                have HT5 := hid ((H3a.out.2.2.1.under H5.out))
                clear hB5 hSp hHeld
                by_cases hoE : other = E
                · have hTo := text_eq hoE
                  have HoE := hid hoE
                  clear hoE
                  have hcn : clashS j I E other PP way = none := clash_none HP.out.2.2.2.2.2.1 (Or.inl HoE.out)
                  have hc15 := HP.out.2.2.2.2.1
                  rw [hcn] at hc15
                  unfold clashV at hc15
                  have HC := hid hc15
                  clear hc15 hcn
                  go_wp2_with fail
                  refine (HC.out _ _ _ ((H6.out.1).1) H3a.out.2.1 ((H6.out.1).2)).mono ?_
                  rintro en w8 ⟨rfl, hb8⟩
                  have H8 := hid (H6.out.2.trans (hb8.mono H6.out.2.size))
                  clear hb8
                  go_wp2_with (go_at_call 9; refine (alive10_any _).mono ?_; rintro en w9 ⟨rfl, hbA⟩; have HBA := hid hbA; clear hbA)
                  go_ret
                  exact ⟨rfl, H8.out.trans (HBA.out.mono H8.out.size)⟩
                · have hTo := text_ne hoE
                  go_wp2_with fail
                  refine (HP.out.2.1 _ HT5.out).mono ?_
                  rintro en w6 ⟨rfl, hb6⟩
                  have H6b := hid (And.intro (HSp.out _ hb6) (H6.out.2.trans (hb6.mono H6.out.2.size)))
                  have HB6 := hid hb6
                  have k6 := HP.out.2.2.2.2.2.2.2.2.2.1 _ H6b.out.2
                  clear hb6 k5
                  go_wp2_with fail
                  refine (HP.out.2.2.2.1 _ H6b.out.1.2).mono ?_
                  rintro en w7 ⟨rfl, hb7⟩
                  have H7 := hid (And.intro (HSp.out _ (HB6.out.trans (hb7.mono HB6.out.size))) (H6b.out.2.trans (hb7.mono H6b.out.2.size)))
                  have k7 := HP.out.2.2.2.2.2.2.2.2.2.1 _ H7.out.2
                  clear hb7 k6
                  cases v with
                  | false =>
                    have hcn : clashS j I E other PP way = none := clash_none HP.out.2.2.2.2.2.1 (Or.inr HP.out.2.2.2.2.2.2.1)
                    have hc15 := HP.out.2.2.2.2.1
                    rw [hcn] at hc15
                    unfold clashV at hc15
                    have HC := hid hc15
                    clear hc15 hcn
                    go_wp2_with fail
                    refine (HC.out _ _ _ ((H7.out.1).1) H3a.out.2.1 ((H7.out.1).2)).mono ?_
                    rintro en w8 ⟨rfl, hb8⟩
                    have H8 := hid (H7.out.2.trans (hb8.mono H7.out.2.size))
                    clear hb8
                    go_wp2_with (go_at_call 9; refine (alive10_any _).mono ?_; rintro en w9 ⟨rfl, hbA⟩; have HBA := hid hbA; clear hbA)
                    go_ret
                    exact ⟨rfl, H8.out.trans (HBA.out.mono H8.out.size)⟩
                  | true =>
                    have hw17 := HP.out.2.2.2.2.2.2.1
                    obtain ⟨x, y, hxy, hne, hdg⟩ := clash_sound (fun e => hoE e.symm) HP.out.2.2.2.2.2.1 hw17
                    have hsz := clashI_size (n := (j : Int)) (i := (I : Int)) (tag := E) (other := other) (path := PP) (way := way) (x := x) (y := y) (M := 8192) (by rw [clashI_eq, if_pos (by omega)]; exact hxy) (by have := HP.out.2.2.2.2.2.2.2.2.1; omega) HSh.out.2.1 (fun t ht => by have := HP.out.2.2.2.2.2.2.2.1 t ht; omega) HSh.out.2.2.2
                    have hc17 := HP.out.2.2.2.2.1
                    rw [hxy] at hc17
                    unfold clashV at hc17
                    have hr1 := fun q => ref_of_any x q (by omega)
                    have hr2 := fun q => ref_of_any y q (by omega)
                    rw [hdg] at hr1
                    have hT1 := text_ne hne
                    obtain ⟨D, hD⟩ : ∃ D, shaS y = D := ⟨_, rfl⟩
                    rw [hD] at hr1 hr2
                    have hT2 := text_eq (rfl : D = D)
                    have HC := hid (And.intro hc17 (And.intro hr1 hr2))
                    clear hc17 hr1 hr2 hxy hne hdg hsz hD hw17
                    go_wp2_with fail
                    refine (HC.out.1 _ _ _ ((H7.out.1).1) H3a.out.2.1 ((H7.out.1).2)).mono ?_
                    rintro en w8 ⟨rfl, hb8⟩
                    have H8 := hid (H7.out.2.trans (hb8.mono H7.out.2.size))
                    clear hb8
                    go_wp2_with fail
                    refine (HC.out.2.1 _).mono ?_
                    rintro en w9 ⟨rfl, hb9⟩
                    have H9 := hid (H8.out.trans (hb9.mono H8.out.size))
                    clear hb9
                    go_wp2_with fail
                    refine (HC.out.2.2 _).mono ?_
                    rintro en w10 ⟨rfl, hb10⟩
                    have H10 := hid (H9.out.trans (hb10.mono H9.out.size))
                    clear hb10
                    go_wp2_with (go_at_call 9; refine (alive10_any _).mono ?_; rintro en w11 ⟨rfl, hbA⟩; have HBA := hid hbA; clear hbA)
                    go_ret
                    exact ⟨rfl, H10.out.trans (HBA.out.mono H10.out.size)⟩
end Go.Proofs.Ytbggnamgpaihmaa
