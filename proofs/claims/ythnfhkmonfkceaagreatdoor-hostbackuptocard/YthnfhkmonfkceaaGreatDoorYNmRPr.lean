/-
  The document's Parse, as a call.
-/
import Derived.Deep.RegionHeld3
import Derived.Test.YthnfhkmonfkceaaGreatDoorYNmRPaToNmDecM
import Derived.Test.YthnfhkmonfkceaaGreatDoorYNmRDcToNmDec
import Derived.Test.YthnfhkmonfkceaaGreatDoorYNmPrs
namespace Go.Proofs.YthnfhkmonfkceaaGreatDoor
open Go.RowKit Go.IntWalk Go.Shelf
attribute [local go_sem ↓] appOf_of

/-- The value that stands so in a text, as the document reads it. -/
def unmR : List UInt8 → List UInt8
  | [] => []
  | [x] => if x = 92 then [] else [x]
  | x :: y :: r => if x = 92 then y :: unmR r else x :: unmR (y :: r)
theorem unmR_plain (x : UInt8) (r : List UInt8) (h : x ≠ 92) : unmR (x :: r) = x :: unmR r := by
  cases r with
  | nil => simp [unmR, h]
  | cons y r => rw [unmR, if_neg h]
theorem unmR_mark : ∀ v, unmR (markU v) = v
  | [] => rfl
  | x :: r => by
    have ih := unmR_mark r
    rw [markU]
    split
    · rw [unmR, if_pos rfl, ih]
    · rename_i h
      have hx : x ≠ 92 := by
        intro e
        subst e
        exact h rfl
      rw [unmR_plain x _ hx, ih]
theorem unmR_len : ∀ l : List UInt8, (unmR l).length ≤ l.length
  | [] => Nat.le_refl _
  | [x] => by rw [unmR]; split <;> simp
  | x :: y :: r => by
    rw [unmR]
    split
    · have := unmR_len r; simp only [List.length_cons]; omega
    · have := unmR_len (y :: r); simp only [List.length_cons] at *; omega
/-- What the document reads a piece as. -/
def rprsA (u : List UInt8) : Int × ByteArray := (typeU (cutE u).1, ⟨(unmR (cutE u).2).toArray⟩)
def rprsN (s : List UInt8) : List (Int × ByteArray) := (pcs [] s).map rprsA
theorem rprs_tld {a : Int × ByteArray} (h : attrL a.1 a.2.data.toList = true) : rprsA (tldU a) = a := by
  obtain ⟨t, s⟩ := a
  unfold rprsA
  rw [tldU_eq]
  have e : (labS t).data.toList ++ [61] ++ markU s.data.toList = (labS t).data.toList ++ 61 :: markU s.data.toList := by simp
  rw [e, cutE_at _ _ (lab_eq t)]
  simp only []
  rw [type_lab (attr_seven h), unmR_mark]
theorem rprsN_text {n : List (Int × ByteArray)} (h : nameL n = true) (hn : n ≠ []) : rprsN (txU n) = n := by
  unfold nameL at h
  rw [Bool.and_eq_true] at h
  unfold rprsN
  rw [pcs_join n hn, List.map_map]
  have : ∀ x ∈ n, (rprsA ∘ tldU) x = x := fun x hx => rprs_tld (List.all_eq_true.1 h.2 x hx)
  rw [List.map_congr_left this]
  simp
theorem pcs_ne : ∀ (s acc : List UInt8), pcs acc s ≠ []
  | [], acc => by simp [pcs]
  | [x], acc => by rw [pcs]; (repeat' split) <;> simp
  | x :: y :: r, acc => by
    rw [pcs]
    split
    · exact pcs_ne r _
    · split
      · simp
      · exact pcs_ne (y :: r) _
theorem pcs_size : ∀ (s acc : List UInt8), (pcs acc s).length ≤ s.length + 1 ∧ ∀ u ∈ pcs acc s, u.length ≤ acc.length + s.length
  | [], acc => by simp [pcs]
  | [x], acc => by
    rw [pcs]
    (repeat' split) <;> simp
  | x :: y :: r, acc => by
    rw [pcs]
    split
    · obtain ⟨h1, h2⟩ := pcs_size r (acc ++ [x, y])
      refine ⟨by simp only [List.length_cons]; omega, fun u hu => ?_⟩
      have := h2 u hu
      simp only [List.length_append, List.length_cons, List.length_nil] at *
      omega
    · split
      · obtain ⟨h1, h2⟩ := pcs_size (y :: r) []
        refine ⟨by simp only [List.length_cons] at *; omega, fun u hu => ?_⟩
        rcases List.mem_cons.1 hu with rfl | hu
        · omega
        · have := h2 u hu
          simp only [List.length_cons, List.length_nil] at *
          omega
      · obtain ⟨h1, h2⟩ := pcs_size (y :: r) (acc ++ [x])
        refine ⟨by simp only [List.length_cons] at *; omega, fun u hu => ?_⟩
        have := h2 u hu
        simp only [List.length_append, List.length_cons, List.length_nil] at *
        omega
theorem okT_list {s : ByteArray} {n : List (Int × ByteArray)} (h : okT s n = true) : nameL n = true ∧ s.data.toList = txU n := by
  unfold okT at h
  rw [Bool.and_eq_true] at h
  have h2 := of_decide_eq_true h.2
  refine ⟨h.1, ?_⟩
  rw [← h2]
  unfold txT
  rw [if_pos h.1]
theorem ok_prs (s : ByteArray) : okT s (rprsN s.data.toList) = okT s (prsN s.data.toList) ∧ (okT s (rprsN s.data.toList) = true → rprsN s.data.toList = prsN s.data.toList) := by
  have A : okT s (rprsN s.data.toList) = true → rprsN s.data.toList = prsN s.data.toList := fun h => by
    have hn : rprsN s.data.toList ≠ [] := by unfold rprsN; simp [pcs_ne]
    obtain ⟨h1, h2⟩ := okT_list h
    generalize rprsN s.data.toList = n at *
    rw [h2, prsN_text h1 hn]
  have B : okT s (prsN s.data.toList) = true → prsN s.data.toList = rprsN s.data.toList := fun h => by
    have hn : prsN s.data.toList ≠ [] := by
      unfold prsN
      intro e
      rcases List.take_eq_nil_iff.1 e with e | e
      · cases e
      · exact pcs_ne _ _ (List.map_eq_nil_iff.1 e)
    obtain ⟨h1, h2⟩ := okT_list h
    generalize prsN s.data.toList = n at *
    rw [h2, rprsN_text h1 hn]
  refine ⟨?_, A⟩
  cases h1 : okT s (rprsN s.data.toList) with
  | true => rw [← A h1, h1]
  | false =>
    cases h2 : okT s (prsN s.data.toList) with
    | false => rfl
    | true => rw [B h2, h1] at h2; cases h2

/-- The type that was found among the labels ahead of k. -/
def kdS (P : List UInt8) : Nat → Int
  | 0 => 0
  | k + 1 => if (labS k).data.toList ≠ [] ∧ (labS k).data.toList = P then (k : Int) else kdS P k
theorem kd_type (P : List UInt8) : kdS P 12 = typeU P := by
  by_cases h1 : P = [67, 78]
  · subst h1; decide
  by_cases h2 : P = [83, 78]
  · subst h2; decide
  by_cases h3 : P = [67]
  · subst h3; decide
  by_cases h4 : P = [76]
  · subst h4; decide
  by_cases h5 : P = [83, 84]
  · subst h5; decide
  by_cases h6 : P = [79]
  · subst h6; decide
  by_cases h7 : P = [79, 85]
  · subst h7; decide
  unfold typeU
  rw [if_neg h1, if_neg h2, if_neg h3, if_neg h4, if_neg h5, if_neg h6, if_neg h7]
  simp [kdS, labS, Ne.symm h1, Ne.symm h2, Ne.symm h3, Ne.symm h4, Ne.symm h5, Ne.symm h6, Ne.symm h7]

/-- A piece that was gone over up to k, with no 61. -/
def CRel (u : List UInt8) (k : Nat) : Prop := cutE u = (u.take k ++ (cutE (u.drop k)).1, (cutE (u.drop k)).2)
theorem crel_start (u : List UInt8) : CRel u 0 := rfl
theorem crel_step (u : List UInt8) (k : Nat) (hk : k < u.length) (h : CRel u k) (hx : u.getD k 0 ≠ 61) : CRel u (k + 1) := by
  unfold CRel at *
  have e : u.take (k + 1) = u.take k ++ [u.getD k 0] := by
    rw [List.take_add_one]
    simp [List.getD, List.getElem?_eq_getElem hk]
  rw [h, e, drop_one u k hk, cutE, if_neg hx]
  simp
theorem crel_eq (u : List UInt8) (k : Nat) (hk : k < u.length) (h : CRel u k) (hx : u.getD k 0 = 61) : cutE u = (u.take k, u.drop (k + 1)) := by
  unfold CRel at *
  rw [h, drop_one u k hk, cutE, if_pos hx]
  simp
theorem crel_end (u : List UInt8) (h : CRel u u.length) : cutE u = (u.take u.length, u.drop (u.length + 1)) := by
  unfold CRel at h
  rw [h, List.drop_eq_nil_of_le (Nat.le_refl _), List.drop_eq_nil_of_le (Nat.le_succ _)]
  simp [cutE]

/-- The piece that is read. -/
def RAt (g k : Nat) (us : ByteArray) (W : World) : Prop := W.cell? ⟨g, k, none⟩ = some (.string us)
theorem RAt.below {g k : Nat} {us : ByteArray} {A C : World} (h : RAt g k us A) (hb : Below A.heap.size A C) : RAt g k us C := (hb.cell (lt_of_cell h)).trans h

set_option maxRecDepth 100000 in
set_option maxHeartbeats 4000000 in
theorem rparse_any (s : ByteArray) (hs : s.size ≤ 1048576) (w : World) :
    Calls Tryz.prog 31 #[.string s] w fun e w' => ∃ a m c, e = .returned (.tuple #[.slice a m c, .int .i64 (pansE s)]) ∧ OwnA w' w.heap.size (.slice a m c) (pansN s) ∧ Below w.heap.size w w' := by
  have hb0 := bs_empty s
  by_cases h0 : s = ⟨#[]⟩
  · have e1 : pansN s = [] := by unfold pansN; rw [if_pos h0]
    have e2 : pansE s = 0 := by unfold pansE; rw [if_pos h0]
    rw [e1, e2]
    rw [decide_eq_true h0] at hb0
    clear h0 e1 e2
    go_enter Tryz.func31, Tryz.ntmps31
    go_wp2
    refine bodyPost_ret (v := .tuple #[.slice none 0 0, .int .i64 0]) (by simp [results, Tryz.results31, go_sem]) rfl ⟨none, 0, 0, rfl, OwnA.nil _ _, Below.refl _ _⟩
  · have HA2 : Hid (True → okT s (rprsN s.data.toList) = true → pansN s = rprsN s.data.toList ∧ pansE s = 0) := fun _ hk => by
      obtain ⟨q1, q2⟩ := ok_prs s
      rw [q2 hk]
      rw [q1] at hk
      exact ⟨by unfold pansN; rw [if_neg h0, if_pos hk], by unfold pansE; rw [if_neg h0, if_pos hk]⟩
    have HA3 : Hid (True → okT s (rprsN s.data.toList) = false → pansN s = [] ∧ pansE s = 120) := fun _ hk => by
      rw [(ok_prs s).1] at hk
      exact ⟨by unfold pansN; rw [if_neg h0, if_neg (by rw [hk]; decide)], by unfold pansE; rw [if_neg h0, if_neg (by rw [hk]; decide)]⟩
    rw [decide_eq_false h0] at hb0
    have h1 := hide (rparts_any s hs w)
    clear h0
    generalize pansN s = AN at *
    generalize pansE s = AE at *
    have HPL : Hid ((pcs [] s.data.toList).length ≤ s.size + 1 ∧ ∀ u ∈ pcs [] s.data.toList, u.length ≤ s.size) := by
      have h := pcs_size s.data.toList []
      rw [bs_len] at h
      exact ⟨h.1, fun u hu => by have := h.2 u hu; simpa using this⟩
    have HR : Hid (rprsN s.data.toList = (pcs [] s.data.toList).map rprsA) := rfl
    generalize rprsN s.data.toList = R at *
    generalize pcs [] s.data.toList = L at *
    go_enter Tryz.func31, Tryz.ntmps31
    go_wp2_with fail
    refine h1.out.mono ?_
    rintro e w1 ⟨aL, cL, rfl, oL, B1⟩
    have HB := hide B1
    have HL := hide oL
    clear h1 B1 oL
    go_wp2
    go_loopw [5, 6] (fun v i wr => ∃ (aN : Option Addr) (cN k : Nat), v = .slice aN k cN ∧ i = .int .i64 k ∧ k ≤ L.length ∧ Hid (OwnA wr w1.heap.size (.slice aN k cN) ((L.take k).map rprsA) ∧ Below w1.heap.size w1 wr)) (fun _ i _ => L.length - (intOf i).toNat)
    case atStart => exact ⟨none, 0, 0, rfl, rfl, Nat.zero_le _, OwnA.nil _ _, Below.refl _ _⟩
    case round =>
      obtain ⟨aN, cN, k, rfl, rfl, hk, HQ⟩ := hrel
      by_cases hlt : k < L.length
      · have ltI : (k : Int) < (L.length : Int) := by omega
        have hp := HL.out.belowA HQ.out.2
        obtain ⟨g, hg⟩ : ∃ g, aL = some ⟨g, 0, none⟩ := by
          rcases hp.split with ⟨_, h⟩ | ⟨g, cap, h, _⟩
          · have h2 : (stxs L).length = 0 := by rw [h]; rfl
            rw [stxs_len] at h2
            omega
          · exact ⟨g, (Value.slice.inj h).1⟩
        subst hg
        obtain ⟨us, hus⟩ : ∃ us, stx (L[k]'hlt) = us := ⟨_, rfl⟩
        have husl : L[k]'hlt = us.data.toList := by rw [← hus]; rfl
        have husz : us.size ≤ s.size := by rw [← bs_len, ← husl]; exact HPL.out.2 _ (List.getElem_mem _)
        have cU : wr.cell? ⟨g, k, none⟩ = some (.string us) := by
          have h := hp.cells k us (by rw [stxs_get L k hlt, hus])
          rwa [Nat.zero_add] at h
        have HN : Hid ((L.take (k + 1)).map rprsA = (L.take k).map rprsA ++ [rprsA us.data.toList]) := by
          unfold Hid
          rw [List.take_add_one, List.map_append, List.getElem?_eq_getElem hlt, husl]
          rfl
        have hLm : L.length ≤ 1048577 := by have := HPL.out.1; omega
        clear hp hus husl
        go_wp2
        go_loop [7] (fun i => ∃ j : Nat, i = .int .i64 j ∧ j ≤ us.size ∧ Hid (CRel us.data.toList j)) (fun i => us.size - (intOf i).toNat)
        case atStart => exact ⟨0, rfl, Nat.zero_le _, crel_start _⟩
        case round =>
          obtain ⟨j, rfl, hj, HC⟩ := hrel
          by_cases hjl : j < us.size
          · have ltJ : (j : Int) < (us.size : Int) := by omega
            obtain ⟨x, hx⟩ : ∃ x, (us[j]'hjl) = x := ⟨_, rfl⟩
            have hxd : us.data.toList.getD j 0 = x := by rw [← get_bs us j hjl]; exact hx
            have hxI : ((us[j]'hjl).toNat : Int) = (x.toNat : Int) := by rw [hx]
            have hx256 := x.toNat_lt
            obtain ⟨y, hy⟩ : ∃ y : Int, (x.toNat : Int) = y := ⟨_, rfl⟩
            rw [hy] at hxI
            by_cases h61 : x = 61
            · have q1 : (y != 61) = false := by rw [← hy, h61]; rfl
              have hCE : Hid (cutE us.data.toList = (us.data.toList.take j, us.data.toList.drop (j + 1))) := crel_eq _ j (by rw [bs_len]; exact hjl) HC.out (by rw [hxd, h61])
              clear HC hx hxd hy h61
              have HRA : Hid (rprsA us.data.toList = (kdS (us.data.toList.take j) 12, ⟨(unmR (us.data.toList.drop (j + 1))).toArray⟩)) := by unfold Hid rprsA; rw [hCE.out, kd_type]
              have slt : ∀ X, (Instr.slice 9 (.string us) none (some (.int .i64 (j : Int))) none).run Tryz.prog X = .ok (.string (stx (us.data.toList.take j))) X := fun X => by
                have h := run_slice_string_h (P := Tryz.prog) X 9 us Tryz.underlying9 .i64 (j : Int) (by omega) (by omega)
                unfold stx
                have e : cutL us.data.toList 0 j = us.data.toList.take j := rfl
                rw [h, ← e, ← cut_text]; simp
              clear hCE
              generalize us.data.toList.take j = Pj at *
              obtain ⟨wo, rfl⟩ : ∃ wo : World, wo = wr := ⟨_, rfl⟩
              go_wp2
              go_loopw [8, 9] (fun kd kk wi => ∃ (q : Nat), kk = .int .i64 q ∧ 1 ≤ q ∧ q ≤ 12 ∧ kd = .int .i64 (kdS Pj q) ∧ Below wo.heap.size wo wi) (fun _ kk _ => 12 - (intOf kk).toNat)
              case atStart => exact ⟨1, rfl, Nat.le_refl _, by omega, rfl, Below.refl _ _⟩
              case round =>
                obtain ⟨q, rfl, hq1, hq, rfl, hBk⟩ := hrel
                by_cases hql : q < 12
                · have qI : (q : Int) < 12 := by omega
                  have HLA := hide (fun W => label_any (q : Int) W)
                  have hst : kdS Pj (q + 1) = if (labS q).data.toList ≠ [] ∧ (labS q).data.toList = Pj then (q : Int) else kdS Pj q := rfl
                  generalize labS (q : Int) = Lq at *
                  go_wp2_with fail
                  have hS0 : RAt g k us wr.drew := (show RAt g k us wr from (hBk.cell (lt_of_cell cU)).trans cU).below (Below.refl _ _).drew
                  refine wp_region_held_drew (S := RAt g k us) (by kernel_rfl) hS0 (fun hS => ?_)
                  clear hS0
                  have KV := hide hBk.drew
                  generalize wr.drew = X0 at *
                  refine wpAnyH_take (i := 0) (v := ?_) rfl (by kernel_rfl) (by kernel_rfl) (by kernel_rfl) (fun _ _ _ h => h) (Or.inl ⟨by rfl, ?_⟩) (by assumption) ?_
                  rotate_left
                  · intro wq hSq
                    go_simp
                    try with_reducible rfl
                  simp only [List.getElem_toArray, List.getElem_cons_zero, Act.put, List.setIfInBounds_toArray, List.set_cons_zero, List.set_cons_succ]
                  refine wpAnyH_ready (rs := [1]) (by kernel_rfl) (by simp) ?_
                  refine AllReadyH.cons rfl (fun Kq hKq => ?_) AllReadyH.nil
                  go_simp
                  refine (HLA.out _).mono ?_
                  rintro e wv ⟨rfl, BV⟩
                  replace hS := hS.below BV
                  refine hKq.out _ _ hS (fun _ => ?_)
                  clear hKq Kq
                  replace KV := hide (KV.out.trans (BV.mono KV.out.size))
                  clear BV
                  by_cases hLe : Lq = ⟨#[]⟩
                  · have hLz := hLe
                    have hb3 := bs_empty Lq
                    rw [decide_eq_true hLe] at hb3
                    clear hLe
                    have hst2 : kdS Pj (q + 1) = kdS Pj q := by rw [hst, if_neg (fun h => h.1 (by rw [hLz]))]
                    clear hst hLz
                    refine wpAnyH_take (i := 2) (v := ?_) rfl (by kernel_rfl) (by kernel_rfl) (by kernel_rfl) (fun _ _ _ h => h) (Or.inl ⟨by rfl, ?_⟩) (by assumption) ?_
                    rotate_left
                    · intro wq hSq
                      have r0 : wq.cell? ⟨g, k, none⟩ = some (.string us) := hSq
                      go_simp
                      try with_reducible rfl
                    simp only [List.getElem_toArray, List.getElem_cons_succ, List.getElem_cons_zero, Act.put, List.setIfInBounds_toArray, List.set_cons_zero, List.set_cons_succ]
                    refine wpAnyH_take (i := 3) (v := ?_) rfl (by kernel_rfl) (by kernel_rfl) (by kernel_rfl) (fun _ _ _ h => h) (Or.inl ⟨by rfl, ?_⟩) (by assumption) ?_
                    rotate_left
                    · intro wq hSq
                      have r0 : wq.cell? ⟨g, k, none⟩ = some (.string us) := hSq
                      go_simp
                      try with_reducible rfl
                    simp only [List.getElem_toArray, List.getElem_cons_succ, List.getElem_cons_zero, Act.put, List.setIfInBounds_toArray, List.set_cons_zero, List.set_cons_succ]
                    refine wpAnyH_take (i := 4) (v := undef) rfl (by kernel_rfl) (by kernel_rfl) (by kernel_rfl) (fun _ _ _ h => h) (Or.inr ⟨by rfl, rfl⟩) (by assumption) ?_
                    simp only [List.getElem_toArray, List.getElem_cons_succ, List.getElem_cons_zero, Act.put, List.setIfInBounds_toArray, List.set_cons_zero, List.set_cons_succ]
                    refine wpAnyH_take (i := 5) (v := undef) rfl (by kernel_rfl) (by kernel_rfl) (by kernel_rfl) (fun _ _ _ h => h) (Or.inr ⟨by rfl, rfl⟩) (by assumption) ?_
                    simp only [List.getElem_toArray, List.getElem_cons_succ, List.getElem_cons_zero, Act.put, List.setIfInBounds_toArray, List.set_cons_zero, List.set_cons_succ]
                    refine wpAnyH_take (i := 6) (v := undef) rfl (by kernel_rfl) (by kernel_rfl) (by kernel_rfl) (fun _ _ _ h => h) (Or.inr ⟨by rfl, rfl⟩) (by assumption) ?_
                    simp only [List.getElem_toArray, List.getElem_cons_succ, List.getElem_cons_zero, Act.put, List.setIfInBounds_toArray, List.set_cons_zero, List.set_cons_succ]
                    refine wpAnyH_take (i := 7) (v := undef) rfl (by kernel_rfl) (by kernel_rfl) (by kernel_rfl) (fun _ _ _ h => h) (Or.inr ⟨by rfl, rfl⟩) (by assumption) ?_
                    simp only [List.getElem_toArray, List.getElem_cons_succ, List.getElem_cons_zero, Act.put, List.setIfInBounds_toArray, List.set_cons_zero, List.set_cons_succ]
                    refine wpAnyH_take (i := 8) (v := undef) rfl (by kernel_rfl) (by kernel_rfl) (by kernel_rfl) (fun _ _ _ h => h) (Or.inr ⟨by rfl, rfl⟩) (by assumption) ?_
                    simp only [List.getElem_toArray, List.getElem_cons_succ, List.getElem_cons_zero, Act.put, List.setIfInBounds_toArray, List.set_cons_zero, List.set_cons_succ]
                    refine wpAnyH_take (i := 9) (v := undef) rfl (by kernel_rfl) (by kernel_rfl) (by kernel_rfl) (fun _ _ _ h => h) (Or.inr ⟨by rfl, rfl⟩) (by assumption) ?_
                    simp only [List.getElem_toArray, List.getElem_cons_succ, List.getElem_cons_zero, Act.put, List.setIfInBounds_toArray, List.set_cons_zero, List.set_cons_succ]
                    refine wpAnyH_take (i := 10) (v := undef) rfl (by kernel_rfl) (by kernel_rfl) (by kernel_rfl) (fun _ _ _ h => h) (Or.inr ⟨by rfl, rfl⟩) (by assumption) ?_
                    simp only [List.getElem_toArray, List.getElem_cons_succ, List.getElem_cons_zero, Act.put, List.setIfInBounds_toArray, List.set_cons_zero, List.set_cons_succ]
                    refine wpAnyH_take (i := 11) (v := undef) rfl (by kernel_rfl) (by kernel_rfl) (by kernel_rfl) (fun _ _ _ h => h) (Or.inr ⟨by rfl, rfl⟩) (by assumption) ?_
                    simp only [List.getElem_toArray, List.getElem_cons_succ, List.getElem_cons_zero, Act.put, List.setIfInBounds_toArray, List.set_cons_zero, List.set_cons_succ]
                    refine wpAnyH_take (i := 12) (v := undef) rfl (by kernel_rfl) (by kernel_rfl) (by kernel_rfl) (fun _ _ _ h => h) (Or.inr ⟨by rfl, rfl⟩) (by assumption) ?_
                    simp only [List.getElem_toArray, List.getElem_cons_succ, List.getElem_cons_zero, Act.put, List.setIfInBounds_toArray, List.set_cons_zero, List.set_cons_succ]
                    refine wpAnyH_take (i := 13) (v := ?_) rfl (by kernel_rfl) (by kernel_rfl) (by kernel_rfl) (fun _ _ _ h => h) (Or.inl ⟨by rfl, ?_⟩) (by assumption) ?_
                    rotate_left
                    · intro wq hSq
                      have r0 : wq.cell? ⟨g, k, none⟩ = some (.string us) := hSq
                      go_simp
                      try with_reducible rfl
                    simp only [List.getElem_toArray, List.getElem_cons_succ, List.getElem_cons_zero, Act.put, List.setIfInBounds_toArray, List.set_cons_zero, List.set_cons_succ]
                    refine wpAnyH_done (by kernel_rfl) ?_ _
                    clear hS
                    rw [← hst2]
                    have KW := KV.out
                    go_wp2
                    go_roundw
                    case rel => exact ⟨q + 1, by go_num, by omega, by omega, rfl, KW⟩
                    case measure => simp [intOf]; omega
                  · have hb3 := bs_empty Lq
                    rw [decide_eq_false hLe] at hb3
                    have hbq := bs_beq2 Lq (stx Pj)
                    have hne : Lq.data.toList ≠ [] := fun e => hLe (bs_ext e)
                    refine wpAnyH_take (i := 2) (v := ?_) rfl (by kernel_rfl) (by kernel_rfl) (by kernel_rfl) (fun _ _ _ h => h) (Or.inl ⟨by rfl, ?_⟩) (by assumption) ?_
                    rotate_left
                    · intro wq hSq
                      have r0 : wq.cell? ⟨g, k, none⟩ = some (.string us) := hSq
                      go_simp
                      try with_reducible rfl
                    simp only [List.getElem_toArray, List.getElem_cons_succ, List.getElem_cons_zero, Act.put, List.setIfInBounds_toArray, List.set_cons_zero, List.set_cons_succ]
                    refine wpAnyH_take (i := 3) (v := ?_) rfl (by kernel_rfl) (by kernel_rfl) (by kernel_rfl) (fun _ _ _ h => h) (Or.inl ⟨by rfl, ?_⟩) (by assumption) ?_
                    rotate_left
                    · intro wq hSq
                      have r0 : wq.cell? ⟨g, k, none⟩ = some (.string us) := hSq
                      go_simp
                      try with_reducible rfl
                    simp only [List.getElem_toArray, List.getElem_cons_succ, List.getElem_cons_zero, Act.put, List.setIfInBounds_toArray, List.set_cons_zero, List.set_cons_succ]
                    refine wpAnyH_take (i := 4) (v := ?_) rfl (by kernel_rfl) (by kernel_rfl) (by kernel_rfl) (fun _ _ _ h => h) (Or.inl ⟨by rfl, ?_⟩) (by assumption) ?_
                    rotate_left
                    · intro wq hSq
                      have r0 : wq.cell? ⟨g, k, none⟩ = some (.string us) := hSq
                      go_simp
                      try with_reducible rfl
                    simp only [List.getElem_toArray, List.getElem_cons_succ, List.getElem_cons_zero, Act.put, List.setIfInBounds_toArray, List.set_cons_zero, List.set_cons_succ]
                    refine wpAnyH_take (i := 6) (v := ?_) rfl (by kernel_rfl) (by kernel_rfl) (by kernel_rfl) (fun _ _ _ h => h) (Or.inl ⟨by rfl, ?_⟩) (by assumption) ?_
                    rotate_left
                    · intro wq hSq
                      have r0 : wq.cell? ⟨g, k, none⟩ = some (.string us) := hSq
                      go_simp
                      try with_reducible rfl
                    simp only [List.getElem_toArray, List.getElem_cons_succ, List.getElem_cons_zero, Act.put, List.setIfInBounds_toArray, List.set_cons_zero, List.set_cons_succ]
                    refine wpAnyH_take (i := 7) (v := ?_) rfl (by kernel_rfl) (by kernel_rfl) (by kernel_rfl) (fun _ _ _ h => h) (Or.inl ⟨by rfl, ?_⟩) (by assumption) ?_
                    rotate_left
                    · intro wq hSq
                      have r0 : wq.cell? ⟨g, k, none⟩ = some (.string us) := hSq
                      go_simp
                      try with_reducible rfl
                    simp only [List.getElem_toArray, List.getElem_cons_succ, List.getElem_cons_zero, Act.put, List.setIfInBounds_toArray, List.set_cons_zero, List.set_cons_succ]
                    refine wpAnyH_take (i := 8) (v := ?_) rfl (by kernel_rfl) (by kernel_rfl) (by kernel_rfl) (fun _ _ _ h => h) (Or.inl ⟨by rfl, ?_⟩) (by assumption) ?_
                    rotate_left
                    · intro wq hSq
                      have r0 : wq.cell? ⟨g, k, none⟩ = some (.string us) := hSq
                      go_simp
                      try with_reducible rfl
                    simp only [List.getElem_toArray, List.getElem_cons_succ, List.getElem_cons_zero, Act.put, List.setIfInBounds_toArray, List.set_cons_zero, List.set_cons_succ]
                    refine wpAnyH_take (i := 9) (v := ?_) rfl (by kernel_rfl) (by kernel_rfl) (by kernel_rfl) (fun _ _ _ h => h) (Or.inl ⟨by rfl, ?_⟩) (by assumption) ?_
                    rotate_left
                    · intro wq hSq
                      have r0 : wq.cell? ⟨g, k, none⟩ = some (.string us) := hSq
                      go_simp
                      try with_reducible rfl
                    simp only [List.getElem_toArray, List.getElem_cons_succ, List.getElem_cons_zero, Act.put, List.setIfInBounds_toArray, List.set_cons_zero, List.set_cons_succ]
                    refine wpAnyH_take (i := 10) (v := ?_) rfl (by kernel_rfl) (by kernel_rfl) (by kernel_rfl) (fun _ _ _ h => h) (Or.inl ⟨by rfl, ?_⟩) (by assumption) ?_
                    rotate_left
                    · intro wq hSq
                      have r0 : wq.cell? ⟨g, k, none⟩ = some (.string us) := hSq
                      go_simp
                      try with_reducible rfl
                    simp only [List.getElem_toArray, List.getElem_cons_succ, List.getElem_cons_zero, Act.put, List.setIfInBounds_toArray, List.set_cons_zero, List.set_cons_succ]
                    refine wpAnyH_take (i := 11) (v := ?_) rfl (by kernel_rfl) (by kernel_rfl) (by kernel_rfl) (fun _ _ _ h => h) (Or.inl ⟨by rfl, ?_⟩) (by assumption) ?_
                    rotate_left
                    · intro wq hSq
                      have r0 : wq.cell? ⟨g, k, none⟩ = some (.string us) := hSq
                      go_simp
                      try with_reducible rfl
                    simp only [List.getElem_toArray, List.getElem_cons_succ, List.getElem_cons_zero, Act.put, List.setIfInBounds_toArray, List.set_cons_zero, List.set_cons_succ]
                    refine wpAnyH_ready (rs := [5]) (by kernel_rfl) (by simp) ?_
                    refine AllReadyH.cons rfl (fun Kq hKq => ?_) AllReadyH.nil
                    go_simp
                    refine (HLA.out _).mono ?_
                    rintro e wv ⟨rfl, BV⟩
                    replace hS := hS.below BV
                    refine hKq.out _ _ hS (fun _ => ?_)
                    clear hKq Kq
                    replace KV := hide (KV.out.trans (BV.mono KV.out.size))
                    clear BV
                    by_cases hLP : Lq = stx Pj
                    · rw [decide_eq_true hLP] at hbq
                      have hst2 : kdS Pj (q + 1) = (q : Int) := by rw [hst, if_pos ⟨hne, by rw [hLP]; rfl⟩]
                      clear hst hne hLP hLe
                      refine wpAnyH_take (i := 12) (v := ?_) rfl (by kernel_rfl) (by kernel_rfl) (by kernel_rfl) (fun _ _ _ h => h) (Or.inl ⟨by rfl, ?_⟩) (by assumption) ?_
                      rotate_left
                      · intro wq hSq
                        have r0 : wq.cell? ⟨g, k, none⟩ = some (.string us) := hSq
                        go_simp
                        try with_reducible rfl
                      simp only [List.getElem_toArray, List.getElem_cons_succ, List.getElem_cons_zero, Act.put, List.setIfInBounds_toArray, List.set_cons_zero, List.set_cons_succ]
                      refine wpAnyH_take (i := 13) (v := ?_) rfl (by kernel_rfl) (by kernel_rfl) (by kernel_rfl) (fun _ _ _ h => h) (Or.inl ⟨by rfl, ?_⟩) (by assumption) ?_
                      rotate_left
                      · intro wq hSq
                        have r0 : wq.cell? ⟨g, k, none⟩ = some (.string us) := hSq
                        go_simp
                        try with_reducible rfl
                      simp only [List.getElem_toArray, List.getElem_cons_succ, List.getElem_cons_zero, Act.put, List.setIfInBounds_toArray, List.set_cons_zero, List.set_cons_succ]
                      refine wpAnyH_done (by kernel_rfl) ?_ _
                      clear hS
                      have KW := KV.out
                      go_wp2
                      go_roundw
                      case rel => exact ⟨q + 1, by go_num, by omega, by omega, by rw [hst2], KW⟩
                      case measure => simp [intOf]; omega
                    · rw [decide_eq_false hLP] at hbq
                      have hst2 : kdS Pj (q + 1) = kdS Pj q := by rw [hst, if_neg (fun h => hLP (bs_ext h.2))]
                      clear hst hne hLP hLe
                      refine wpAnyH_take (i := 12) (v := ?_) rfl (by kernel_rfl) (by kernel_rfl) (by kernel_rfl) (fun _ _ _ h => h) (Or.inl ⟨by rfl, ?_⟩) (by assumption) ?_
                      rotate_left
                      · intro wq hSq
                        have r0 : wq.cell? ⟨g, k, none⟩ = some (.string us) := hSq
                        go_simp
                        try with_reducible rfl
                      simp only [List.getElem_toArray, List.getElem_cons_succ, List.getElem_cons_zero, Act.put, List.setIfInBounds_toArray, List.set_cons_zero, List.set_cons_succ]
                      refine wpAnyH_take (i := 13) (v := ?_) rfl (by kernel_rfl) (by kernel_rfl) (by kernel_rfl) (fun _ _ _ h => h) (Or.inl ⟨by rfl, ?_⟩) (by assumption) ?_
                      rotate_left
                      · intro wq hSq
                        have r0 : wq.cell? ⟨g, k, none⟩ = some (.string us) := hSq
                        go_simp
                        try with_reducible rfl
                      simp only [List.getElem_toArray, List.getElem_cons_succ, List.getElem_cons_zero, Act.put, List.setIfInBounds_toArray, List.set_cons_zero, List.set_cons_succ]
                      refine wpAnyH_done (by kernel_rfl) ?_ _
                      clear hS
                      have KW := KV.out
                      go_wp2
                      go_roundw
                      case rel => exact ⟨q + 1, by go_num, by omega, by omega, by rw [hst2], KW⟩
                      case measure => simp [intOf]; omega
                · obtain rfl : q = 12 := by omega
                  have qI : ¬ ((12 : Nat) : Int) < 12 := by decide
                  obtain ⟨V, hV⟩ : ∃ V, unmR (us.data.toList.drop (j + 1)) = V := ⟨_, rfl⟩
                  rw [hV] at HRA
                  have HV := hide hV
                  have hVl : V.length ≤ us.size := by rw [← hV, ← bs_len us]; exact Nat.le_trans (unmR_len _) (by rw [List.length_drop]; omega)
                  obtain ⟨wk, rfl⟩ : ∃ wk : World, wk = wr := ⟨_, rfl⟩
                  have cK : wk.cell? ⟨g, k, none⟩ = some (.string us) := (hBk.cell (lt_of_cell cU)).trans cU
                  clear hV
                  go_wp2
                  go_loopw [10, 11] (fun vv kk wi => ∃ (aV : Option Addr) (q m c : Nat) (M : List UInt8), vv = .slice aV m c ∧ kk = .int .i64 q ∧ q ≤ us.size + 1 ∧ m ≤ q ∧ M.length = m ∧ Hid (OwnB wi wk.heap.size (.slice aV m c) (nums M)) ∧ Hid (M ++ unmR (us.data.toList.drop q) = V) ∧ Below wk.heap.size wk wi) (fun _ kk _ => us.size - (intOf kk).toNat)
                  case atStart => exact ⟨none, j + 1, 0, 0, [], rfl, by go_num, by omega, by omega, rfl, OwnB.nil _ _, by unfold Hid; simpa using HV.out, Below.refl _ _⟩
                  case round =>
                    obtain ⟨aV, q, m, c, M0, rfl, rfl, hq, hm, hM0, hO, hE, hB⟩ := hrel
                    have hBs := hB.size
                    have c1 : wr.cell? ⟨g, k, none⟩ = some (.string us) := (hB.cell (lt_of_cell cK)).trans cK
                    by_cases hql : q < us.size
                    · have qlI : (q : Int) < (us.size : Int) := by omega
                      have hdr := drop_one us.data.toList q (by rw [bs_len]; exact hql)
                      obtain ⟨x, hx⟩ : ∃ x, (us[q]'hql) = x := ⟨_, rfl⟩
                      have hxd : us.data.toList.getD q 0 = x := by rw [← get_bs us q hql]; exact hx
                      rw [hxd] at hdr
                      have hxI : ((us[q]'hql).toNat : Int) = (x.toNat : Int) := by rw [hx]
                      have hx256 := x.toNat_lt
                      obtain ⟨M, hM⟩ : ∃ M, nums M0 = M := ⟨_, rfl⟩
                      rw [hM] at hO
                      have HM := hide hM
                      have HLN : Hid (M.length = m) := by unfold Hid; rw [← hM, ← hM0]; simp [nums]
                      by_cases hx92 : x = 92
                      · have c2 : ((x.toNat : Int) == 92) = true := by subst hx92; rfl
                        by_cases hq1 : q + 1 < us.size
                        · have q2I : (q : Int) + 1 < (us.size : Int) := by omega
                          have hdr2 := drop_one us.data.toList (q + 1) (by rw [bs_len]; exact hq1)
                          obtain ⟨z, hz⟩ : ∃ z, (us[q + 1]'hq1) = z := ⟨_, rfl⟩
                          have hzd : us.data.toList.getD (q + 1) 0 = z := by rw [← get_bs us (q + 1) hq1]; exact hz
                          rw [hzd] at hdr2
                          have hzI : ((us[q + 1]'hq1).toNat : Int) = (z.toNat : Int) := by rw [hz]
                          have hz256 := z.toNat_lt
                          have hE2 : Hid ((M0 ++ [z]) ++ unmR (us.data.toList.drop (q + 2)) = V) := by
                            unfold Hid
                            have h := hE.out
                            rw [hdr, hdr2, unmR, if_pos hx92] at h
                            rw [← h]
                            simp
                          obtain ⟨y, hy⟩ : ∃ y : Int, (z.toNat : Int) = y := ⟨_, rfl⟩
                          rw [hy] at hzI
                          obtain ⟨y1, hy1⟩ : ∃ y : Int, (x.toNat : Int) = y := ⟨_, rfl⟩
                          rw [hy1] at hxI c2
                          have hy0 : 0 ≤ y ∧ y < 256 := by omega
                          have HN2 : Hid (nums (M0 ++ [z]) = M ++ [y]) := by unfold Hid; rw [nums_app, HM.out, ← hy]; rfl
                          clear hdr hdr2 hz hzd hy hx hxd hy1 hM hx92
                          go_wp2_with (at_builtin; refine wpList_appN _ rfl (.tmp 88) (.tmp 95) rfl wk.heap.size (.slice aV m c) M rfl (hO.out.alloc _) (some ⟨wr.heap.size, 0, none⟩) 1 1 [y] rfl (Src.lit [y] _ 1 rfl rfl (by simp; exact hy0) (by decide)) (m + 1) (by rw [List.length_append, HLN.out]; rfl) (.inr (by simp)) (by omega) (by simp; omega) ?_; intro g4 c4 w4 ho4 hb4 hl4 hc4 hm4 hg4)
                          have hB4 : Below wk.heap.size wk w4 := (hB.alloc (by omega) _).grown hg4 (by simp; omega) (fun j hj => (OwnB.lt hO.out j hj).1)
                          go_roundw
                          case rel => exact ⟨some ⟨g4, 0, none⟩, q + 2, m + 1, c4, M0 ++ [z], rfl, by go_num, by omega, by omega, by rw [List.length_append, hM0]; rfl, by rw [HN2.out]; exact ho4, hE2, hB4⟩
                          case measure => simp [intOf]; omega
                        · have q2I : ¬ (q : Int) + 1 < (us.size : Int) := by omega
                          have hE2 : Hid (M0 ++ unmR (us.data.toList.drop (q + 2)) = V) := by
                            unfold Hid
                            have h := hE.out
                            have e1 : us.data.toList.drop (q + 1) = [] := List.drop_eq_nil_of_le (by rw [bs_len]; omega)
                            have e2 : us.data.toList.drop (q + 2) = [] := List.drop_eq_nil_of_le (by rw [bs_len]; omega)
                            rw [hdr, e1, unmR, if_pos hx92] at h
                            rw [← h, e2]
                            rfl
                          obtain ⟨y1, hy1⟩ : ∃ y : Int, (x.toNat : Int) = y := ⟨_, rfl⟩
                          rw [hy1] at hxI c2
                          have hO2 := hO
                          rw [← HM.out] at hO2
                          clear hdr hx hxd hy1 hM hx92
                          go_wp2
                          go_roundw
                          case rel => exact ⟨aV, q + 2, m, c, M0, rfl, by go_num, by omega, by omega, hM0, hO2, hE2, hB⟩
                          case measure => simp [intOf]; omega
                      · have hE2 : Hid ((M0 ++ [x]) ++ unmR (us.data.toList.drop (q + 1)) = V) := by
                          unfold Hid
                          have h := hE.out
                          rw [hdr, unmR_plain x _ hx92] at h
                          rw [← h]
                          simp
                        obtain ⟨y, hy⟩ : ∃ y : Int, (x.toNat : Int) = y := ⟨_, rfl⟩
                        rw [hy] at hxI
                        have c2 : (y == 92) = false := beq_eq_false_iff_ne.2 (fun e => hx92 (by apply UInt8.toNat_inj.1; show x.toNat = 92; omega))
                        have hy0 : 0 ≤ y ∧ y < 256 := by omega
                        have HN2 : Hid (nums (M0 ++ [x]) = M ++ [y]) := by unfold Hid; rw [nums_app, HM.out, ← hy]; rfl
                        clear hdr hx hxd hy hM hx92
                        go_wp2_with (at_builtin; refine wpList_appN _ rfl (.tmp 88) (.tmp 95) rfl wk.heap.size (.slice aV m c) M rfl (hO.out.alloc _) (some ⟨wr.heap.size, 0, none⟩) 1 1 [y] rfl (Src.lit [y] _ 1 rfl rfl (by simp; exact hy0) (by decide)) (m + 1) (by rw [List.length_append, HLN.out]; rfl) (.inr (by simp)) (by omega) (by simp; omega) ?_; intro g4 c4 w4 ho4 hb4 hl4 hc4 hm4 hg4)
                        have hB4 : Below wk.heap.size wk w4 := (hB.alloc (by omega) _).grown hg4 (by simp; omega) (fun j hj => (OwnB.lt hO.out j hj).1)
                        go_roundw
                        case rel => exact ⟨some ⟨g4, 0, none⟩, q + 1, m + 1, c4, M0 ++ [x], rfl, by go_num, by omega, by omega, by rw [List.length_append, hM0]; rfl, by rw [HN2.out]; exact ho4, hE2, hB4⟩
                        case measure => simp [intOf]; omega
                    · have nQ : ¬ (q : Int) < (us.size : Int) := by omega
                      have hall : us.data.toList.drop q = [] := List.drop_eq_nil_of_le (by rw [bs_len]; omega)
                      have hMV : M0 = V := by have h := hE.out; rw [hall] at h; simpa [unmR] using h
                      subst hMV
                      have ht := (OwnB.toSrc hO.out (nums_byte _)).text
                      rw [nums_text] at ht
                      have hBw := HQ.out.2.trans ((hBk.trans (hB.mono hBk.size)).mono HQ.out.2.size)
                      have ho := HQ.out.1.below (hBk.trans (hB.mono hBk.size))
                      obtain ⟨sv, hsv⟩ : ∃ sv : ByteArray, (⟨M0.toArray⟩ : ByteArray) = sv := ⟨_, rfl⟩
                      have hsz : sv.size ≤ 1048576 := by rw [← hsv]; show M0.toArray.size ≤ _; simp; omega
                      rw [hsv] at ht HRA
                      have nb := nbelow wr (.cells #[.int .i64 (kdS Pj 12), .string sv] 67)
                      have s1 := one_src wr (kdS Pj 12) sv hsz
                      have hl1 : ((L.take k).map rprsA).length + 1 = k + 1 := by rw [List.length_map, List.length_take, Nat.min_eq_left (by omega)]
                      have hBx := hBw.trans (nb.mono hBw.size)
                      obtain ⟨g5, c5, X2, hrun, o3, hg5, hcg, hkc, hgr, _⟩ := run_appA (wr.alloc (.cells #[.int .i64 (kdS Pj 12), .string sv] 67)) 40 w1.heap.size _ _ (ho.below nb) ⟨wr.heap.size, 0, none⟩ 1 _ _ s1 (k + 1) hl1 (by omega) hBx.size
                      rw [appOf_of] at hrun
                      have L1 : Below w1.heap.size w1 X2 := hBx.grown hgr hBx.size (fun j hj => (World.ownsRow.lt (ho.below nb) j hj).1)
                      rw [← HRA.out, ← HN.out] at o3
                      have HO3 := hide (And.intro o3 L1)
                      clear o3 L1 hgr hall hE hO hB hBw ho nb s1 hl1 hBx hg5 hsv hsz HRA HV cK cU
                      go_wp2
                      go_roundw
                      case rel => exact ⟨some ⟨g5, 0, none⟩, c5, k + 1, rfl, by go_num, by omega, HO3.out⟩
                      case measure => simp [intOf]; omega
            · have q1 : (y != 61) = true := by
                have : y ≠ 61 := fun e => h61 (by apply UInt8.toNat_inj.1; show x.toNat = 61; omega)
                simpa using this
              have hC2 : Hid (CRel us.data.toList (j + 1)) := crel_step _ j (by rw [bs_len]; exact hjl) HC.out (by rw [hxd]; exact h61)
              clear HC hx hxd hy h61
              go_wp2
              go_round
              case rel => exact ⟨j + 1, by go_num, by omega, hC2⟩
              case measure => simp [intOf]; omega
          · obtain rfl : j = us.size := by omega
            have nJ : ¬ (us.size : Int) < (us.size : Int) := by omega
            have hCE : Hid (cutE us.data.toList = (us.data.toList.take us.size, us.data.toList.drop (us.size + 1))) := by
              have h := HC.out
              rw [← bs_len] at h ⊢
              exact crel_end _ h
            clear HC
            obtain ⟨j, hjE⟩ : ∃ j, us.size = j := ⟨_, rfl⟩
            have hj : j ≤ us.size := by omega
            rw [hjE] at hCE nJ
            have nJ2 : ¬ (j : Int) < (us.size : Int) := by omega
            have HRA : Hid (rprsA us.data.toList = (kdS (us.data.toList.take j) 12, ⟨(unmR (us.data.toList.drop (j + 1))).toArray⟩)) := by unfold Hid rprsA; rw [hCE.out, kd_type]
            have slt : ∀ X, (Instr.slice 9 (.string us) none (some (.int .i64 (j : Int))) none).run Tryz.prog X = .ok (.string (stx (us.data.toList.take j))) X := fun X => by
              have h := run_slice_string_h (P := Tryz.prog) X 9 us Tryz.underlying9 .i64 (j : Int) (by omega) (by omega)
              unfold stx
              have e : cutL us.data.toList 0 j = us.data.toList.take j := rfl
              rw [h, ← e, ← cut_text]; simp
            clear hCE
            generalize us.data.toList.take j = Pj at *
            obtain ⟨wo, rfl⟩ : ∃ wo : World, wo = wr := ⟨_, rfl⟩
            go_wp2
            go_loopw [8, 9] (fun kd kk wi => ∃ (q : Nat), kk = .int .i64 q ∧ 1 ≤ q ∧ q ≤ 12 ∧ kd = .int .i64 (kdS Pj q) ∧ Below wo.heap.size wo wi) (fun _ kk _ => 12 - (intOf kk).toNat)
            case atStart => exact ⟨1, rfl, Nat.le_refl _, by omega, rfl, Below.refl _ _⟩
            case round =>
              obtain ⟨q, rfl, hq1, hq, rfl, hBk⟩ := hrel
              by_cases hql : q < 12
              · have qI : (q : Int) < 12 := by omega
                have HLA := hide (fun W => label_any (q : Int) W)
                have hst : kdS Pj (q + 1) = if (labS q).data.toList ≠ [] ∧ (labS q).data.toList = Pj then (q : Int) else kdS Pj q := rfl
                generalize labS (q : Int) = Lq at *
                go_wp2_with fail
                have hS0 : RAt g k us wr.drew := (show RAt g k us wr from (hBk.cell (lt_of_cell cU)).trans cU).below (Below.refl _ _).drew
                refine wp_region_held_drew (S := RAt g k us) (by kernel_rfl) hS0 (fun hS => ?_)
                clear hS0
                have KV := hide hBk.drew
                generalize wr.drew = X0 at *
                refine wpAnyH_take (i := 0) (v := ?_) rfl (by kernel_rfl) (by kernel_rfl) (by kernel_rfl) (fun _ _ _ h => h) (Or.inl ⟨by rfl, ?_⟩) (by assumption) ?_
                rotate_left
                · intro wq hSq
                  go_simp
                  try with_reducible rfl
                simp only [List.getElem_toArray, List.getElem_cons_zero, Act.put, List.setIfInBounds_toArray, List.set_cons_zero, List.set_cons_succ]
                refine wpAnyH_ready (rs := [1]) (by kernel_rfl) (by simp) ?_
                refine AllReadyH.cons rfl (fun Kq hKq => ?_) AllReadyH.nil
                go_simp
                refine (HLA.out _).mono ?_
                rintro e wv ⟨rfl, BV⟩
                replace hS := hS.below BV
                refine hKq.out _ _ hS (fun _ => ?_)
                clear hKq Kq
                replace KV := hide (KV.out.trans (BV.mono KV.out.size))
                clear BV
                by_cases hLe : Lq = ⟨#[]⟩
                · have hLz := hLe
                  have hb3 := bs_empty Lq
                  rw [decide_eq_true hLe] at hb3
                  clear hLe
                  have hst2 : kdS Pj (q + 1) = kdS Pj q := by rw [hst, if_neg (fun h => h.1 (by rw [hLz]))]
                  clear hst hLz
                  refine wpAnyH_take (i := 2) (v := ?_) rfl (by kernel_rfl) (by kernel_rfl) (by kernel_rfl) (fun _ _ _ h => h) (Or.inl ⟨by rfl, ?_⟩) (by assumption) ?_
                  rotate_left
                  · intro wq hSq
                    have r0 : wq.cell? ⟨g, k, none⟩ = some (.string us) := hSq
                    go_simp
                    try with_reducible rfl
                  simp only [List.getElem_toArray, List.getElem_cons_succ, List.getElem_cons_zero, Act.put, List.setIfInBounds_toArray, List.set_cons_zero, List.set_cons_succ]
                  refine wpAnyH_take (i := 3) (v := ?_) rfl (by kernel_rfl) (by kernel_rfl) (by kernel_rfl) (fun _ _ _ h => h) (Or.inl ⟨by rfl, ?_⟩) (by assumption) ?_
                  rotate_left
                  · intro wq hSq
                    have r0 : wq.cell? ⟨g, k, none⟩ = some (.string us) := hSq
                    go_simp
                    try with_reducible rfl
                  simp only [List.getElem_toArray, List.getElem_cons_succ, List.getElem_cons_zero, Act.put, List.setIfInBounds_toArray, List.set_cons_zero, List.set_cons_succ]
                  refine wpAnyH_take (i := 4) (v := undef) rfl (by kernel_rfl) (by kernel_rfl) (by kernel_rfl) (fun _ _ _ h => h) (Or.inr ⟨by rfl, rfl⟩) (by assumption) ?_
                  simp only [List.getElem_toArray, List.getElem_cons_succ, List.getElem_cons_zero, Act.put, List.setIfInBounds_toArray, List.set_cons_zero, List.set_cons_succ]
                  refine wpAnyH_take (i := 5) (v := undef) rfl (by kernel_rfl) (by kernel_rfl) (by kernel_rfl) (fun _ _ _ h => h) (Or.inr ⟨by rfl, rfl⟩) (by assumption) ?_
                  simp only [List.getElem_toArray, List.getElem_cons_succ, List.getElem_cons_zero, Act.put, List.setIfInBounds_toArray, List.set_cons_zero, List.set_cons_succ]
                  refine wpAnyH_take (i := 6) (v := undef) rfl (by kernel_rfl) (by kernel_rfl) (by kernel_rfl) (fun _ _ _ h => h) (Or.inr ⟨by rfl, rfl⟩) (by assumption) ?_
                  simp only [List.getElem_toArray, List.getElem_cons_succ, List.getElem_cons_zero, Act.put, List.setIfInBounds_toArray, List.set_cons_zero, List.set_cons_succ]
                  refine wpAnyH_take (i := 7) (v := undef) rfl (by kernel_rfl) (by kernel_rfl) (by kernel_rfl) (fun _ _ _ h => h) (Or.inr ⟨by rfl, rfl⟩) (by assumption) ?_
                  simp only [List.getElem_toArray, List.getElem_cons_succ, List.getElem_cons_zero, Act.put, List.setIfInBounds_toArray, List.set_cons_zero, List.set_cons_succ]
                  refine wpAnyH_take (i := 8) (v := undef) rfl (by kernel_rfl) (by kernel_rfl) (by kernel_rfl) (fun _ _ _ h => h) (Or.inr ⟨by rfl, rfl⟩) (by assumption) ?_
                  simp only [List.getElem_toArray, List.getElem_cons_succ, List.getElem_cons_zero, Act.put, List.setIfInBounds_toArray, List.set_cons_zero, List.set_cons_succ]
                  refine wpAnyH_take (i := 9) (v := undef) rfl (by kernel_rfl) (by kernel_rfl) (by kernel_rfl) (fun _ _ _ h => h) (Or.inr ⟨by rfl, rfl⟩) (by assumption) ?_
                  simp only [List.getElem_toArray, List.getElem_cons_succ, List.getElem_cons_zero, Act.put, List.setIfInBounds_toArray, List.set_cons_zero, List.set_cons_succ]
                  refine wpAnyH_take (i := 10) (v := undef) rfl (by kernel_rfl) (by kernel_rfl) (by kernel_rfl) (fun _ _ _ h => h) (Or.inr ⟨by rfl, rfl⟩) (by assumption) ?_
                  simp only [List.getElem_toArray, List.getElem_cons_succ, List.getElem_cons_zero, Act.put, List.setIfInBounds_toArray, List.set_cons_zero, List.set_cons_succ]
                  refine wpAnyH_take (i := 11) (v := undef) rfl (by kernel_rfl) (by kernel_rfl) (by kernel_rfl) (fun _ _ _ h => h) (Or.inr ⟨by rfl, rfl⟩) (by assumption) ?_
                  simp only [List.getElem_toArray, List.getElem_cons_succ, List.getElem_cons_zero, Act.put, List.setIfInBounds_toArray, List.set_cons_zero, List.set_cons_succ]
                  refine wpAnyH_take (i := 12) (v := undef) rfl (by kernel_rfl) (by kernel_rfl) (by kernel_rfl) (fun _ _ _ h => h) (Or.inr ⟨by rfl, rfl⟩) (by assumption) ?_
                  simp only [List.getElem_toArray, List.getElem_cons_succ, List.getElem_cons_zero, Act.put, List.setIfInBounds_toArray, List.set_cons_zero, List.set_cons_succ]
                  refine wpAnyH_take (i := 13) (v := ?_) rfl (by kernel_rfl) (by kernel_rfl) (by kernel_rfl) (fun _ _ _ h => h) (Or.inl ⟨by rfl, ?_⟩) (by assumption) ?_
                  rotate_left
                  · intro wq hSq
                    have r0 : wq.cell? ⟨g, k, none⟩ = some (.string us) := hSq
                    go_simp
                    try with_reducible rfl
                  simp only [List.getElem_toArray, List.getElem_cons_succ, List.getElem_cons_zero, Act.put, List.setIfInBounds_toArray, List.set_cons_zero, List.set_cons_succ]
                  refine wpAnyH_done (by kernel_rfl) ?_ _
                  clear hS
                  rw [← hst2]
                  have KW := KV.out
                  go_wp2
                  go_roundw
                  case rel => exact ⟨q + 1, by go_num, by omega, by omega, rfl, KW⟩
                  case measure => simp [intOf]; omega
                · have hb3 := bs_empty Lq
                  rw [decide_eq_false hLe] at hb3
                  have hbq := bs_beq2 Lq (stx Pj)
                  have hne : Lq.data.toList ≠ [] := fun e => hLe (bs_ext e)
                  refine wpAnyH_take (i := 2) (v := ?_) rfl (by kernel_rfl) (by kernel_rfl) (by kernel_rfl) (fun _ _ _ h => h) (Or.inl ⟨by rfl, ?_⟩) (by assumption) ?_
                  rotate_left
                  · intro wq hSq
                    have r0 : wq.cell? ⟨g, k, none⟩ = some (.string us) := hSq
                    go_simp
                    try with_reducible rfl
                  simp only [List.getElem_toArray, List.getElem_cons_succ, List.getElem_cons_zero, Act.put, List.setIfInBounds_toArray, List.set_cons_zero, List.set_cons_succ]
                  refine wpAnyH_take (i := 3) (v := ?_) rfl (by kernel_rfl) (by kernel_rfl) (by kernel_rfl) (fun _ _ _ h => h) (Or.inl ⟨by rfl, ?_⟩) (by assumption) ?_
                  rotate_left
                  · intro wq hSq
                    have r0 : wq.cell? ⟨g, k, none⟩ = some (.string us) := hSq
                    go_simp
                    try with_reducible rfl
                  simp only [List.getElem_toArray, List.getElem_cons_succ, List.getElem_cons_zero, Act.put, List.setIfInBounds_toArray, List.set_cons_zero, List.set_cons_succ]
                  refine wpAnyH_take (i := 4) (v := ?_) rfl (by kernel_rfl) (by kernel_rfl) (by kernel_rfl) (fun _ _ _ h => h) (Or.inl ⟨by rfl, ?_⟩) (by assumption) ?_
                  rotate_left
                  · intro wq hSq
                    have r0 : wq.cell? ⟨g, k, none⟩ = some (.string us) := hSq
                    go_simp
                    try with_reducible rfl
                  simp only [List.getElem_toArray, List.getElem_cons_succ, List.getElem_cons_zero, Act.put, List.setIfInBounds_toArray, List.set_cons_zero, List.set_cons_succ]
                  refine wpAnyH_take (i := 6) (v := ?_) rfl (by kernel_rfl) (by kernel_rfl) (by kernel_rfl) (fun _ _ _ h => h) (Or.inl ⟨by rfl, ?_⟩) (by assumption) ?_
                  rotate_left
                  · intro wq hSq
                    have r0 : wq.cell? ⟨g, k, none⟩ = some (.string us) := hSq
                    go_simp
                    try with_reducible rfl
                  simp only [List.getElem_toArray, List.getElem_cons_succ, List.getElem_cons_zero, Act.put, List.setIfInBounds_toArray, List.set_cons_zero, List.set_cons_succ]
                  refine wpAnyH_take (i := 7) (v := ?_) rfl (by kernel_rfl) (by kernel_rfl) (by kernel_rfl) (fun _ _ _ h => h) (Or.inl ⟨by rfl, ?_⟩) (by assumption) ?_
                  rotate_left
                  · intro wq hSq
                    have r0 : wq.cell? ⟨g, k, none⟩ = some (.string us) := hSq
                    go_simp
                    try with_reducible rfl
                  simp only [List.getElem_toArray, List.getElem_cons_succ, List.getElem_cons_zero, Act.put, List.setIfInBounds_toArray, List.set_cons_zero, List.set_cons_succ]
                  refine wpAnyH_take (i := 8) (v := ?_) rfl (by kernel_rfl) (by kernel_rfl) (by kernel_rfl) (fun _ _ _ h => h) (Or.inl ⟨by rfl, ?_⟩) (by assumption) ?_
                  rotate_left
                  · intro wq hSq
                    have r0 : wq.cell? ⟨g, k, none⟩ = some (.string us) := hSq
                    go_simp
                    try with_reducible rfl
                  simp only [List.getElem_toArray, List.getElem_cons_succ, List.getElem_cons_zero, Act.put, List.setIfInBounds_toArray, List.set_cons_zero, List.set_cons_succ]
                  refine wpAnyH_take (i := 9) (v := ?_) rfl (by kernel_rfl) (by kernel_rfl) (by kernel_rfl) (fun _ _ _ h => h) (Or.inl ⟨by rfl, ?_⟩) (by assumption) ?_
                  rotate_left
                  · intro wq hSq
                    have r0 : wq.cell? ⟨g, k, none⟩ = some (.string us) := hSq
                    go_simp
                    try with_reducible rfl
                  simp only [List.getElem_toArray, List.getElem_cons_succ, List.getElem_cons_zero, Act.put, List.setIfInBounds_toArray, List.set_cons_zero, List.set_cons_succ]
                  refine wpAnyH_take (i := 10) (v := ?_) rfl (by kernel_rfl) (by kernel_rfl) (by kernel_rfl) (fun _ _ _ h => h) (Or.inl ⟨by rfl, ?_⟩) (by assumption) ?_
                  rotate_left
                  · intro wq hSq
                    have r0 : wq.cell? ⟨g, k, none⟩ = some (.string us) := hSq
                    go_simp
                    try with_reducible rfl
                  simp only [List.getElem_toArray, List.getElem_cons_succ, List.getElem_cons_zero, Act.put, List.setIfInBounds_toArray, List.set_cons_zero, List.set_cons_succ]
                  refine wpAnyH_take (i := 11) (v := ?_) rfl (by kernel_rfl) (by kernel_rfl) (by kernel_rfl) (fun _ _ _ h => h) (Or.inl ⟨by rfl, ?_⟩) (by assumption) ?_
                  rotate_left
                  · intro wq hSq
                    have r0 : wq.cell? ⟨g, k, none⟩ = some (.string us) := hSq
                    go_simp
                    try with_reducible rfl
                  simp only [List.getElem_toArray, List.getElem_cons_succ, List.getElem_cons_zero, Act.put, List.setIfInBounds_toArray, List.set_cons_zero, List.set_cons_succ]
                  refine wpAnyH_ready (rs := [5]) (by kernel_rfl) (by simp) ?_
                  refine AllReadyH.cons rfl (fun Kq hKq => ?_) AllReadyH.nil
                  go_simp
                  refine (HLA.out _).mono ?_
                  rintro e wv ⟨rfl, BV⟩
                  replace hS := hS.below BV
                  refine hKq.out _ _ hS (fun _ => ?_)
                  clear hKq Kq
                  replace KV := hide (KV.out.trans (BV.mono KV.out.size))
                  clear BV
                  by_cases hLP : Lq = stx Pj
                  · rw [decide_eq_true hLP] at hbq
                    have hst2 : kdS Pj (q + 1) = (q : Int) := by rw [hst, if_pos ⟨hne, by rw [hLP]; rfl⟩]
                    clear hst hne hLP hLe
                    refine wpAnyH_take (i := 12) (v := ?_) rfl (by kernel_rfl) (by kernel_rfl) (by kernel_rfl) (fun _ _ _ h => h) (Or.inl ⟨by rfl, ?_⟩) (by assumption) ?_
                    rotate_left
                    · intro wq hSq
                      have r0 : wq.cell? ⟨g, k, none⟩ = some (.string us) := hSq
                      go_simp
                      try with_reducible rfl
                    simp only [List.getElem_toArray, List.getElem_cons_succ, List.getElem_cons_zero, Act.put, List.setIfInBounds_toArray, List.set_cons_zero, List.set_cons_succ]
                    refine wpAnyH_take (i := 13) (v := ?_) rfl (by kernel_rfl) (by kernel_rfl) (by kernel_rfl) (fun _ _ _ h => h) (Or.inl ⟨by rfl, ?_⟩) (by assumption) ?_
                    rotate_left
                    · intro wq hSq
                      have r0 : wq.cell? ⟨g, k, none⟩ = some (.string us) := hSq
                      go_simp
                      try with_reducible rfl
                    simp only [List.getElem_toArray, List.getElem_cons_succ, List.getElem_cons_zero, Act.put, List.setIfInBounds_toArray, List.set_cons_zero, List.set_cons_succ]
                    refine wpAnyH_done (by kernel_rfl) ?_ _
                    clear hS
                    have KW := KV.out
                    go_wp2
                    go_roundw
                    case rel => exact ⟨q + 1, by go_num, by omega, by omega, by rw [hst2], KW⟩
                    case measure => simp [intOf]; omega
                  · rw [decide_eq_false hLP] at hbq
                    have hst2 : kdS Pj (q + 1) = kdS Pj q := by rw [hst, if_neg (fun h => hLP (bs_ext h.2))]
                    clear hst hne hLP hLe
                    refine wpAnyH_take (i := 12) (v := ?_) rfl (by kernel_rfl) (by kernel_rfl) (by kernel_rfl) (fun _ _ _ h => h) (Or.inl ⟨by rfl, ?_⟩) (by assumption) ?_
                    rotate_left
                    · intro wq hSq
                      have r0 : wq.cell? ⟨g, k, none⟩ = some (.string us) := hSq
                      go_simp
                      try with_reducible rfl
                    simp only [List.getElem_toArray, List.getElem_cons_succ, List.getElem_cons_zero, Act.put, List.setIfInBounds_toArray, List.set_cons_zero, List.set_cons_succ]
                    refine wpAnyH_take (i := 13) (v := ?_) rfl (by kernel_rfl) (by kernel_rfl) (by kernel_rfl) (fun _ _ _ h => h) (Or.inl ⟨by rfl, ?_⟩) (by assumption) ?_
                    rotate_left
                    · intro wq hSq
                      have r0 : wq.cell? ⟨g, k, none⟩ = some (.string us) := hSq
                      go_simp
                      try with_reducible rfl
                    simp only [List.getElem_toArray, List.getElem_cons_succ, List.getElem_cons_zero, Act.put, List.setIfInBounds_toArray, List.set_cons_zero, List.set_cons_succ]
                    refine wpAnyH_done (by kernel_rfl) ?_ _
                    clear hS
                    have KW := KV.out
                    go_wp2
                    go_roundw
                    case rel => exact ⟨q + 1, by go_num, by omega, by omega, by rw [hst2], KW⟩
                    case measure => simp [intOf]; omega
              · obtain rfl : q = 12 := by omega
                have qI : ¬ ((12 : Nat) : Int) < 12 := by decide
                obtain ⟨V, hV⟩ : ∃ V, unmR (us.data.toList.drop (j + 1)) = V := ⟨_, rfl⟩
                rw [hV] at HRA
                have HV := hide hV
                have hVl : V.length ≤ us.size := by rw [← hV, ← bs_len us]; exact Nat.le_trans (unmR_len _) (by rw [List.length_drop]; omega)
                obtain ⟨wk, rfl⟩ : ∃ wk : World, wk = wr := ⟨_, rfl⟩
                have cK : wk.cell? ⟨g, k, none⟩ = some (.string us) := (hBk.cell (lt_of_cell cU)).trans cU
                clear hV
                go_wp2
                go_loopw [10, 11] (fun vv kk wi => ∃ (aV : Option Addr) (q m c : Nat) (M : List UInt8), vv = .slice aV m c ∧ kk = .int .i64 q ∧ q ≤ us.size + 1 ∧ m ≤ q ∧ M.length = m ∧ Hid (OwnB wi wk.heap.size (.slice aV m c) (nums M)) ∧ Hid (M ++ unmR (us.data.toList.drop q) = V) ∧ Below wk.heap.size wk wi) (fun _ kk _ => us.size - (intOf kk).toNat)
                case atStart => exact ⟨none, j + 1, 0, 0, [], rfl, by go_num, by omega, by omega, rfl, OwnB.nil _ _, by unfold Hid; simpa using HV.out, Below.refl _ _⟩
                case round =>
                  obtain ⟨aV, q, m, c, M0, rfl, rfl, hq, hm, hM0, hO, hE, hB⟩ := hrel
                  have hBs := hB.size
                  have c1 : wr.cell? ⟨g, k, none⟩ = some (.string us) := (hB.cell (lt_of_cell cK)).trans cK
                  by_cases hql : q < us.size
                  · have qlI : (q : Int) < (us.size : Int) := by omega
                    have hdr := drop_one us.data.toList q (by rw [bs_len]; exact hql)
                    obtain ⟨x, hx⟩ : ∃ x, (us[q]'hql) = x := ⟨_, rfl⟩
                    have hxd : us.data.toList.getD q 0 = x := by rw [← get_bs us q hql]; exact hx
                    rw [hxd] at hdr
                    have hxI : ((us[q]'hql).toNat : Int) = (x.toNat : Int) := by rw [hx]
                    have hx256 := x.toNat_lt
                    obtain ⟨M, hM⟩ : ∃ M, nums M0 = M := ⟨_, rfl⟩
                    rw [hM] at hO
                    have HM := hide hM
                    have HLN : Hid (M.length = m) := by unfold Hid; rw [← hM, ← hM0]; simp [nums]
                    by_cases hx92 : x = 92
                    · have c2 : ((x.toNat : Int) == 92) = true := by subst hx92; rfl
                      by_cases hq1 : q + 1 < us.size
                      · have q2I : (q : Int) + 1 < (us.size : Int) := by omega
                        have hdr2 := drop_one us.data.toList (q + 1) (by rw [bs_len]; exact hq1)
                        obtain ⟨z, hz⟩ : ∃ z, (us[q + 1]'hq1) = z := ⟨_, rfl⟩
                        have hzd : us.data.toList.getD (q + 1) 0 = z := by rw [← get_bs us (q + 1) hq1]; exact hz
                        rw [hzd] at hdr2
                        have hzI : ((us[q + 1]'hq1).toNat : Int) = (z.toNat : Int) := by rw [hz]
                        have hz256 := z.toNat_lt
                        have hE2 : Hid ((M0 ++ [z]) ++ unmR (us.data.toList.drop (q + 2)) = V) := by
                          unfold Hid
                          have h := hE.out
                          rw [hdr, hdr2, unmR, if_pos hx92] at h
                          rw [← h]
                          simp
                        obtain ⟨y, hy⟩ : ∃ y : Int, (z.toNat : Int) = y := ⟨_, rfl⟩
                        rw [hy] at hzI
                        obtain ⟨y1, hy1⟩ : ∃ y : Int, (x.toNat : Int) = y := ⟨_, rfl⟩
                        rw [hy1] at hxI c2
                        have hy0 : 0 ≤ y ∧ y < 256 := by omega
                        have HN2 : Hid (nums (M0 ++ [z]) = M ++ [y]) := by unfold Hid; rw [nums_app, HM.out, ← hy]; rfl
                        clear hdr hdr2 hz hzd hy hx hxd hy1 hM hx92
                        go_wp2_with (at_builtin; refine wpList_appN _ rfl (.tmp 88) (.tmp 95) rfl wk.heap.size (.slice aV m c) M rfl (hO.out.alloc _) (some ⟨wr.heap.size, 0, none⟩) 1 1 [y] rfl (Src.lit [y] _ 1 rfl rfl (by simp; exact hy0) (by decide)) (m + 1) (by rw [List.length_append, HLN.out]; rfl) (.inr (by simp)) (by omega) (by simp; omega) ?_; intro g4 c4 w4 ho4 hb4 hl4 hc4 hm4 hg4)
                        have hB4 : Below wk.heap.size wk w4 := (hB.alloc (by omega) _).grown hg4 (by simp; omega) (fun j hj => (OwnB.lt hO.out j hj).1)
                        go_roundw
                        case rel => exact ⟨some ⟨g4, 0, none⟩, q + 2, m + 1, c4, M0 ++ [z], rfl, by go_num, by omega, by omega, by rw [List.length_append, hM0]; rfl, by rw [HN2.out]; exact ho4, hE2, hB4⟩
                        case measure => simp [intOf]; omega
                      · have q2I : ¬ (q : Int) + 1 < (us.size : Int) := by omega
                        have hE2 : Hid (M0 ++ unmR (us.data.toList.drop (q + 2)) = V) := by
                          unfold Hid
                          have h := hE.out
                          have e1 : us.data.toList.drop (q + 1) = [] := List.drop_eq_nil_of_le (by rw [bs_len]; omega)
                          have e2 : us.data.toList.drop (q + 2) = [] := List.drop_eq_nil_of_le (by rw [bs_len]; omega)
                          rw [hdr, e1, unmR, if_pos hx92] at h
                          rw [← h, e2]
                          rfl
                        obtain ⟨y1, hy1⟩ : ∃ y : Int, (x.toNat : Int) = y := ⟨_, rfl⟩
                        rw [hy1] at hxI c2
                        have hO2 := hO
                        rw [← HM.out] at hO2
                        clear hdr hx hxd hy1 hM hx92
                        go_wp2
                        go_roundw
                        case rel => exact ⟨aV, q + 2, m, c, M0, rfl, by go_num, by omega, by omega, hM0, hO2, hE2, hB⟩
                        case measure => simp [intOf]; omega
                    · have hE2 : Hid ((M0 ++ [x]) ++ unmR (us.data.toList.drop (q + 1)) = V) := by
                        unfold Hid
                        have h := hE.out
                        rw [hdr, unmR_plain x _ hx92] at h
                        rw [← h]
                        simp
                      obtain ⟨y, hy⟩ : ∃ y : Int, (x.toNat : Int) = y := ⟨_, rfl⟩
                      rw [hy] at hxI
                      have c2 : (y == 92) = false := beq_eq_false_iff_ne.2 (fun e => hx92 (by apply UInt8.toNat_inj.1; show x.toNat = 92; omega))
                      have hy0 : 0 ≤ y ∧ y < 256 := by omega
                      have HN2 : Hid (nums (M0 ++ [x]) = M ++ [y]) := by unfold Hid; rw [nums_app, HM.out, ← hy]; rfl
                      clear hdr hx hxd hy hM hx92
                      go_wp2_with (at_builtin; refine wpList_appN _ rfl (.tmp 88) (.tmp 95) rfl wk.heap.size (.slice aV m c) M rfl (hO.out.alloc _) (some ⟨wr.heap.size, 0, none⟩) 1 1 [y] rfl (Src.lit [y] _ 1 rfl rfl (by simp; exact hy0) (by decide)) (m + 1) (by rw [List.length_append, HLN.out]; rfl) (.inr (by simp)) (by omega) (by simp; omega) ?_; intro g4 c4 w4 ho4 hb4 hl4 hc4 hm4 hg4)
                      have hB4 : Below wk.heap.size wk w4 := (hB.alloc (by omega) _).grown hg4 (by simp; omega) (fun j hj => (OwnB.lt hO.out j hj).1)
                      go_roundw
                      case rel => exact ⟨some ⟨g4, 0, none⟩, q + 1, m + 1, c4, M0 ++ [x], rfl, by go_num, by omega, by omega, by rw [List.length_append, hM0]; rfl, by rw [HN2.out]; exact ho4, hE2, hB4⟩
                      case measure => simp [intOf]; omega
                  · have nQ : ¬ (q : Int) < (us.size : Int) := by omega
                    have hall : us.data.toList.drop q = [] := List.drop_eq_nil_of_le (by rw [bs_len]; omega)
                    have hMV : M0 = V := by have h := hE.out; rw [hall] at h; simpa [unmR] using h
                    subst hMV
                    have ht := (OwnB.toSrc hO.out (nums_byte _)).text
                    rw [nums_text] at ht
                    have hBw := HQ.out.2.trans ((hBk.trans (hB.mono hBk.size)).mono HQ.out.2.size)
                    have ho := HQ.out.1.below (hBk.trans (hB.mono hBk.size))
                    obtain ⟨sv, hsv⟩ : ∃ sv : ByteArray, (⟨M0.toArray⟩ : ByteArray) = sv := ⟨_, rfl⟩
                    have hsz : sv.size ≤ 1048576 := by rw [← hsv]; show M0.toArray.size ≤ _; simp; omega
                    rw [hsv] at ht HRA
                    have nb := nbelow wr (.cells #[.int .i64 (kdS Pj 12), .string sv] 67)
                    have s1 := one_src wr (kdS Pj 12) sv hsz
                    have hl1 : ((L.take k).map rprsA).length + 1 = k + 1 := by rw [List.length_map, List.length_take, Nat.min_eq_left (by omega)]
                    have hBx := hBw.trans (nb.mono hBw.size)
                    obtain ⟨g5, c5, X2, hrun, o3, hg5, hcg, hkc, hgr, _⟩ := run_appA (wr.alloc (.cells #[.int .i64 (kdS Pj 12), .string sv] 67)) 40 w1.heap.size _ _ (ho.below nb) ⟨wr.heap.size, 0, none⟩ 1 _ _ s1 (k + 1) hl1 (by omega) hBx.size
                    rw [appOf_of] at hrun
                    have L1 : Below w1.heap.size w1 X2 := hBx.grown hgr hBx.size (fun j hj => (World.ownsRow.lt (ho.below nb) j hj).1)
                    rw [← HRA.out, ← HN.out] at o3
                    have HO3 := hide (And.intro o3 L1)
                    clear o3 L1 hgr hall hE hO hB hBw ho nb s1 hl1 hBx hg5 hsv hsz HRA HV cK cU
                    go_wp2
                    go_roundw
                    case rel => exact ⟨some ⟨g5, 0, none⟩, c5, k + 1, rfl, by go_num, by omega, HO3.out⟩
                    case measure => simp [intOf]; omega
      · obtain rfl : k = L.length := by omega
        have nI : ¬ (L.length : Int) < (L.length : Int) := by omega
        have HZ : Hid (∀ x ∈ R, x.2.size ≤ 1048576) := fun x hx => by
          rw [HR.out] at hx
          obtain ⟨u, hu, rfl⟩ := List.mem_map.1 hx
          have h1 := HPL.out.2 u hu
          have h2 := unmR_len (cutE u).2
          have h3 := (cutE_len u).2
          show (unmR (cutE u).2).toArray.size ≤ _
          simp
          omega
        have o1 := HQ.out.1
        rw [List.take_length, ← HR.out] at o1
        have HO := hide (o1.rebase HB.out.size)
        have HB2 := hide (HB.out.trans (HQ.out.2.mono HB.out.size))
        have h3 := hide (rtextN_any aN L.length cN R wr (o1.ats HZ.out) HZ.out)
        have hE := encNE_ok R
        have hkk : okT s R = (nameL R && decide (txT R = s)) := rfl
        have hbq := bs_beq2 (txT R) s
        clear o1 HQ HR HPL
        generalize encNE R = en at *
        generalize txT R = TX at *
        go_wp2_with fail
        refine h3.out.mono ?_
        rintro e w3 ⟨rfl, B3⟩
        have HO3 := hide (HO.out.below B3)
        have HB3 := hide (HB2.out.trans (B3.mono HB2.out.size))
        clear h3 HO HB2 B3
        cases hn : nameL R with
        | true =>
          rw [hn] at hE hkk
          rw [if_pos rfl] at hE
          subst hE
          have e1 : ((0 : Int) != 0) = false := rfl
          by_cases hc : TX = s
          · rw [decide_eq_true hc] at hbq hkk
            obtain ⟨rfl, rfl⟩ := HA2.out (by trivial) hkk
            clear hkk hn HA2 HA3
            go_wp2
            refine bodyPost_ret (v := .tuple #[.slice aN L.length cN, .int .i64 0]) (by simp [results, Tryz.results31, go_sem]) rfl ⟨aN, L.length, cN, rfl, HO3.out, HB3.out⟩
          · rw [decide_eq_false hc] at hbq hkk
            obtain ⟨rfl, rfl⟩ := HA3.out (by trivial) hkk
            clear hkk hn HA2 HA3
            go_wp2
            refine bodyPost_ret (v := .tuple #[.slice none 0 0, .int .i64 120]) (by simp [results, Tryz.results31, go_sem]) rfl ⟨none, 0, 0, rfl, OwnA.nil _ _, HB3.out⟩
        | false =>
          rw [hn] at hE hkk
          rw [if_neg (by decide)] at hE
          subst hE
          have e1 : ((120 : Int) != 0) = true := rfl
          obtain ⟨rfl, rfl⟩ := HA3.out (by trivial) (by rw [hkk]; rfl)
          clear hkk hn HA2 HA3 hbq
          go_wp2
          refine bodyPost_ret (v := .tuple #[.slice none 0 0, .int .i64 120]) (by simp [results, Tryz.results31, go_sem]) rfl ⟨none, 0, 0, rfl, OwnA.nil _ _, HB3.out⟩

end Go.Proofs.YthnfhkmonfkceaaGreatDoor
