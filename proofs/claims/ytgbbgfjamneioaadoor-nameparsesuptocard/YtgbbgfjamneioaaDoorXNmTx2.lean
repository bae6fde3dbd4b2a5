/-
  name.told and name.Text.
-/
import Derived.Deep.RegionHeld3
import Derived.Test.YtgbbgfjamneioaaDoorXNmTxtToNmRMay2
import Derived.Test.YtgbbgfjamneioaaDoorXNmMay2ToNmPut
import Derived.Test.YtgbbgfjamneioaaDoorXNmREnc
namespace Go.Proofs.YtgbbgfjamneioaaDoor
open Go.RowKit Go.IntWalk Go.Shelf

/-- The table of labels lies as it was laid. -/
def TabN (w : World) : Prop := ∀ k : Nat, k < 12 → w.cell? ⟨0, k, none⟩ = some (.string (labS (k : Int)))
theorem TabN.below {w w' : World} (h : TabN w) (hb : Below w.heap.size w w') : TabN w' := fun k hk => (hb.cell (lt_of_cell (h k hk))).trans (h k hk)

theorem attr_seven {t : Int} {l : List UInt8} (h : attrL t l = true) : t = 3 ∨ t = 5 ∨ t = 6 ∨ t = 7 ∨ t = 8 ∨ t = 10 ∨ t = 11 := by
  unfold attrL at h
  split at h
  · omega
  · split at h
    · omega
    · simp only [Bool.and_eq_true] at h
      have := h.1
      unfold plainT at this
      simp at this
      omega
theorem type_nat {t : Int} {l : List UInt8} (h : attrL t l = true) : ∃ k : Nat, t = (k : Int) ∧ k < 12 := by
  have hv : t = 3 ∨ t = 5 ∨ t = 6 ∨ t = 7 ∨ t = 8 ∨ t = 10 ∨ t = 11 := attr_seven h
  rcases hv with rfl | rfl | rfl | rfl | rfl | rfl | rfl
  · exact ⟨3, rfl, by omega⟩
  · exact ⟨5, rfl, by omega⟩
  · exact ⟨6, rfl, by omega⟩
  · exact ⟨7, rfl, by omega⟩
  · exact ⟨8, rfl, by omega⟩
  · exact ⟨10, rfl, by omega⟩
  · exact ⟨11, rfl, by omega⟩
theorem tldS_len (x : Int × ByteArray) : (tldS x).size ≤ 3 + 2 * x.2.size := by
  unfold tldS
  rw [bs_app_len, bs_app_len]
  have h1 := labS_len x.1
  have h2 := mkS_len x.2
  have h3 : (⟨#[61]⟩ : ByteArray).size = 1 := rfl
  omega

/-- What told reads. -/
def ToldAt (B k : Nat) (s L : ByteArray) (W : World) : Prop :=
  W.cell? ⟨B, 0, none⟩ = some (.int .i64 (k : Int)) ∧ W.cell? ⟨B, 1, none⟩ = some (.string s) ∧ W.cell? ⟨0, k, none⟩ = some (.string L)
theorem ToldAt.below {B k : Nat} {s L : ByteArray} {A C : World} (h : ToldAt B k s L A) (hb : Below A.heap.size A C) : ToldAt B k s L C := by
  obtain ⟨r0, r1, r2⟩ := h
  exact ⟨(hb.cell (lt_of_cell r0)).trans r0, (hb.cell (lt_of_cell r1)).trans r1, (hb.cell (lt_of_cell r2)).trans r2⟩

set_option maxRecDepth 100000 in
set_option maxHeartbeats 2000000 in
theorem told_any (t : Int) (s : ByteArray) (w : World) (hT : TabN w) (ha : attrL t s.data.toList = true) (hs : s.size ≤ 1048576) :
    Calls Tryd.prog 30 #[.agg #[.int .i64 t, .string s]] w fun e w' => e = .returned (.string (tldS (t, s))) ∧ Below w.heap.size w w' := by
  obtain ⟨k, rfl, hk⟩ := type_nat ha
  clear ha
  have hB := nbelow w (.cells #[.int .i64 (k : Int), .string s] 52)
  have hSt : ToldAt w.heap.size k s (labS (k : Int)) (w.alloc (.cells #[.int .i64 (k : Int), .string s] 52)) := ⟨by simp, by simp, (hT.below hB) k hk⟩
  have hL := labS_len (k : Int)
  have hm := mkS_len s
  have HM := hide (fun W => marked_any s hs W)
  have HE : Hid (tldS ((k : Int), s) = labS (k : Int) ++ ⟨#[61]⟩ ++ mkS s) := rfl
  generalize tldS ((k : Int), s) = Z at *
  generalize labS (k : Int) = L at *
  generalize mkS s = M at *
  have b1 : ¬ 9223372036854775807 < L.size + 1 := by omega
  have b2 : ¬ 9223372036854775807 < L.size + 1 + M.size := by omega
  have b3 : ¬ 9223372036854775807 < (L ++ (⟨#[61]⟩ : ByteArray)).size + M.size := by rw [bs_app_len]; exact b2
  have HB := hide hB
  have kI : (k : Int) < 12 := by omega
  clear hT hL hm hB
  go_enter Tryd.func30, Tryd.ntmps30
  go_wp2_with fail
  refine wp_region_held_drew (S := ToldAt w.heap.size k s L) (by kernel_rfl) (hSt.below (Below.refl _ _).drew) (fun hS => ?_)
  replace HB := hide (HB.out.drew)
  clear hSt
  generalize (w.alloc (.cells #[.int .i64 (k : Int), .string s] 52)).drew = X0 at *
  refine wpAnyH_take (i := 0) (v := ?_) rfl (by kernel_rfl) (by kernel_rfl) (by kernel_rfl) (fun _ _ _ h => h) (Or.inl ⟨by rfl, ?_⟩) (by assumption) ?_
  rotate_left
  · intro wq hSq
    obtain ⟨r0, r1, r2⟩ := hSq
    go_simp
    try with_reducible rfl
  simp only [List.getElem_toArray, List.getElem_cons_zero, Act.put, List.setIfInBounds_toArray, List.set_cons_zero, List.set_cons_succ]
  refine wpAnyH_take (i := 1) (v := ?_) rfl (by kernel_rfl) (by kernel_rfl) (by kernel_rfl) (fun _ _ _ h => h) (Or.inl ⟨by rfl, ?_⟩) (by assumption) ?_
  rotate_left
  · intro wq hSq
    obtain ⟨r0, r1, r2⟩ := hSq
    go_simp
    try with_reducible rfl
  simp only [List.getElem_toArray, List.getElem_cons_succ, List.getElem_cons_zero, Act.put, List.setIfInBounds_toArray, List.set_cons_zero, List.set_cons_succ]
  refine wpAnyH_take (i := 2) (v := ?_) rfl (by kernel_rfl) (by kernel_rfl) (by kernel_rfl) (fun _ _ _ h => h) (Or.inl ⟨by rfl, ?_⟩) (by assumption) ?_
  rotate_left
  · intro wq hSq
    obtain ⟨r0, r1, r2⟩ := hSq
    go_simp
    try with_reducible rfl
  simp only [List.getElem_toArray, List.getElem_cons_succ, List.getElem_cons_zero, Act.put, List.setIfInBounds_toArray, List.set_cons_zero, List.set_cons_succ]
  refine wpAnyH_take (i := 3) (v := ?_) rfl (by kernel_rfl) (by kernel_rfl) (by kernel_rfl) (fun _ _ _ h => h) (Or.inl ⟨by rfl, ?_⟩) (by assumption) ?_
  rotate_left
  · intro wq hSq
    obtain ⟨r0, r1, r2⟩ := hSq
    go_simp
    try with_reducible rfl
  simp only [List.getElem_toArray, List.getElem_cons_succ, List.getElem_cons_zero, Act.put, List.setIfInBounds_toArray, List.set_cons_zero, List.set_cons_succ]
  refine wpAnyH_take (i := 4) (v := ?_) rfl (by kernel_rfl) (by kernel_rfl) (by kernel_rfl) (fun _ _ _ h => h) (Or.inl ⟨by rfl, ?_⟩) (by assumption) ?_
  rotate_left
  · intro wq hSq
    obtain ⟨r0, r1, r2⟩ := hSq
    go_simp
    try with_reducible rfl
  simp only [List.getElem_toArray, List.getElem_cons_succ, List.getElem_cons_zero, Act.put, List.setIfInBounds_toArray, List.set_cons_zero, List.set_cons_succ]
  refine wpAnyH_take (i := 5) (v := ?_) rfl (by kernel_rfl) (by kernel_rfl) (by kernel_rfl) (fun _ _ _ h => h) (Or.inl ⟨by rfl, ?_⟩) (by assumption) ?_
  rotate_left
  · intro wq hSq
    obtain ⟨r0, r1, r2⟩ := hSq
    go_simp
    try with_reducible rfl
  simp only [List.getElem_toArray, List.getElem_cons_succ, List.getElem_cons_zero, Act.put, List.setIfInBounds_toArray, List.set_cons_zero, List.set_cons_succ]
  refine wpAnyH_take (i := 6) (v := ?_) rfl (by kernel_rfl) (by kernel_rfl) (by kernel_rfl) (fun _ _ _ h => h) (Or.inl ⟨by rfl, ?_⟩) (by assumption) ?_
  rotate_left
  · intro wq hSq
    obtain ⟨r0, r1, r2⟩ := hSq
    go_simp
    try with_reducible rfl
  simp only [List.getElem_toArray, List.getElem_cons_succ, List.getElem_cons_zero, Act.put, List.setIfInBounds_toArray, List.set_cons_zero, List.set_cons_succ]
  refine wpAnyH_ready (rs := [7]) (by kernel_rfl) (by simp) ?_
  refine AllReadyH.cons rfl (fun Kq hKq => ?_) AllReadyH.nil
  go_simp
  refine (HM.out X0).mono ?_
  rintro e w1 ⟨rfl, B1⟩
  refine hKq.out _ _ (hS.below B1) (fun hHeld => ?_)
  clear hKq Kq
  refine wpAnyH_take (i := 8) (v := ?_) rfl (by kernel_rfl) (by kernel_rfl) (by kernel_rfl) (fun _ _ _ h => h) (Or.inl ⟨by rfl, ?_⟩) (by assumption) ?_
  rotate_left
  · intro wq hSq
    obtain ⟨r0, r1, r2⟩ := hSq
    go_simp
    try with_reducible rfl
  simp only [List.getElem_toArray, List.getElem_cons_succ, List.getElem_cons_zero, Act.put, List.setIfInBounds_toArray, List.set_cons_zero, List.set_cons_succ]
  refine wpAnyH_take (i := 9) (v := ?_) rfl (by kernel_rfl) (by kernel_rfl) (by kernel_rfl) (fun _ _ _ h => h) (Or.inl ⟨by rfl, ?_⟩) (by assumption) ?_
  rotate_left
  · intro wq hSq
    obtain ⟨r0, r1, r2⟩ := hSq
    go_simp
    try with_reducible rfl
  simp only [List.getElem_toArray, List.getElem_cons_succ, List.getElem_cons_zero, Act.put, List.setIfInBounds_toArray, List.set_cons_zero, List.set_cons_succ]
  refine wpAnyH_done (by kernel_rfl) ?_ _
  have HB2 := hide (HB.out.trans (B1.mono HB.out.size))
  clear B1 hHeld hS HB
  go_wp2
  go_ret
  exact ⟨by rw [HE.out]; rfl, HB2.out⟩

theorem joinN_snoc (l : List (List UInt8)) (x sep : List UInt8) (h : l ≠ []) : Lib.join (l ++ [x]) sep = Lib.join l sep ++ sep ++ x := by
  cases l with
  | nil => exact absurd rfl h
  | cons y r =>
    rw [List.cons_append, Lib.join_cons, Lib.join_cons]
    unfold Lib.joinTail
    simp [List.map_append, List.append_assoc]
theorem txU_map (n : List (Int × ByteArray)) : Lib.join ((n.map tldS).map (·.data.toList)) (⟨#[44]⟩ : ByteArray).data.toList = txU n := by
  unfold txU
  rw [List.map_map]
  rfl
theorem joinN_len (N : Nat) : ∀ (l : List (List UInt8)), (∀ x ∈ l, x.length ≤ N) → (Lib.join l [44]).length ≤ l.length * (N + 1)
  | [], _ => by simp [Lib.join, List.intercalate]
  | y :: r, h => by
    rw [Lib.join_cons, List.length_append]
    have h1 := h y (by simp)
    have h2 : ∀ (r : List (List UInt8)), (∀ x ∈ r, x.length ≤ N) → (Lib.joinTail [44] r).length ≤ r.length * (N + 1) := by
      intro r
      induction r with
      | nil => intro _; simp [Lib.joinTail]
      | cons z r ih =>
        intro h
        have h3 := h z (by simp)
        have h4 := ih (fun x hx => h x (by simp [hx]))
        unfold Lib.joinTail at *
        simp only [List.map_cons, List.flatten_cons, List.length_append, List.length_cons, List.length_nil]
        rw [Nat.add_mul]
        omega
    have h3 := h2 r (fun x hx => h x (by simp [hx]))
    rw [List.length_cons, Nat.add_mul]
    omega
theorem txU_len {n : List (Int × ByteArray)} (h : nameL n = true) : (txU n).length ≤ 2112 := by
  have h0 := h
  unfold nameL at h
  rw [Bool.and_eq_true] at h
  have hl := of_decide_eq_true h.1
  unfold txU
  have h2 := joinN_len 131 (n.map tldU) (fun x hx => by
    obtain ⟨a, ha, rfl⟩ := List.mem_map.1 hx
    have h3 := attr_short (List.all_eq_true.1 h.2 a ha)
    have h4 := tldS_len a
    have h5 : (tldU a).length = (tldS a).size := by unfold tldU; rw [Array.length_toList]; rfl
    omega)
  rw [List.length_map] at h2
  omega

set_option maxRecDepth 100000 in
set_option maxHeartbeats 2000000 in
theorem textN_any (ao : Option Addr) (n cap : Nat) (xs : List (Int × ByteArray)) (w : World) (hT : TabN w) (hA : Ats w ao n cap xs) (hz : ∀ x ∈ xs, x.2.size ≤ 1048576) :
    Calls Tryd.prog 10 #[.slice ao n cap] w fun e w' => e = .returned (.tuple #[.string (txT xs), .int .i64 (encNE xs)]) ∧ Below w.heap.size w w' := by
  have hM := hide (mayN_any ao n cap xs w hA (fun x hx => by have := hz x hx; omega))
  have HL := hide hA.hl
  have hc := hA.hcap
  have hm := hA.hmax
  unfold maxLen at hm
  have HA := hide hA
  have HZ := hide hz
  have HT := hide hT
  clear hA hz hT
  cases hN : nameL xs with
  | false =>
    have e1 : txT xs = ⟨#[]⟩ := by unfold txT; rw [hN]; rfl
    have e2 : encNE xs = 120 := by unfold encNE; rw [hN]; rfl
    rw [e1, e2]
    rw [hN] at hM
    clear hN e1 e2
    go_enter Tryd.func10, Tryd.ntmps10
    go_wp2_with fail
    refine hM.out.mono ?_
    rintro e w1 ⟨rfl, B1⟩
    go_wp2
    refine bodyPost_ret (v := .tuple #[.string ⟨#[]⟩, .int .i64 120]) (by simp [results, Tryd.results10, go_sem]) rfl ⟨rfl, B1⟩
  | true =>
    have e1 : txT xs = ⟨(txU xs).toArray⟩ := by unfold txT; rw [hN]; rfl
    have e2 : encNE xs = 0 := by unfold encNE; rw [hN]; rfl
    have HTL := hide (txU_len hN)
    have h16 : n ≤ 16 := by
      unfold nameL at hN
      rw [Bool.and_eq_true] at hN
      have := of_decide_eq_true hN.1
      rw [HL.out] at this
      exact this
    have HAT : Hid (∀ x ∈ xs, attrL x.1 x.2.data.toList = true) := by
      unfold nameL at hN
      rw [Bool.and_eq_true] at hN
      exact List.all_eq_true.1 hN.2
    rw [e1, e2]
    rw [hN] at hM
    clear hN e1 e2
    go_enter Tryd.func10, Tryd.ntmps10
    go_wp2_with fail
    refine hM.out.mono ?_
    rintro e w1 ⟨rfl, B1⟩
    have HB := hide B1
    clear B1 hM
    go_wp2
    go_loopw [4, 12] (fun v i wr => ∃ (k : Nat) (aO : Option Addr) (cO : Nat), k ≤ n ∧ i = .int .i64 k ∧ v = .slice aO k cO ∧ Hid (OwnS wr w1.heap.size (.slice aO k cO) ((xs.take k).map tldS)) ∧ Below w1.heap.size w1 wr) (fun _ i _ => n - (intOf i).toNat)
    case atStart => exact ⟨0, none, 0, Nat.zero_le _, rfl, rfl, OwnS.nil _ _, Below.refl _ _⟩
    case round =>
      obtain ⟨k, aO, cO, hk, rfl, rfl, hO, hB⟩ := hrel
      have hBs := hB.size
      have HB2 := hide (HB.out.trans (hB.mono HB.out.size))
      by_cases hlt : k < n
      · have ltI : (k : Int) < (n : Int) := by omega
        obtain ⟨b, off, rfl, hcl⟩ := (HA.out.below HB2.out).hrd (by omega)
        obtain ⟨c0, c1⟩ := hcl k hlt
        have hmem := getD_mem (xs := xs) (i := k) (by rw [HL.out]; exact hlt)
        have hsz := HZ.out _ hmem
        have hat := HAT.out _ hmem
        have hnx : Hid ((xs.take (k + 1)).map tldS = (xs.take k).map tldS ++ [tldS (xs.getD k (0, ByteArray.empty))]) := by
          unfold Hid
          rw [List.take_add_one, List.map_append]
          simp [List.getD, List.getElem?_eq_getElem (show k < xs.length by rw [HL.out]; exact hlt)]
        have hll : Hid (((xs.take k).map tldS).length + 1 = k + 1) := by
          unfold Hid
          rw [List.length_map, List.length_take, HL.out]
          omega
        generalize xs.getD k (0, ByteArray.empty) = x at c0 c1 hsz hat hnx
        generalize (xs.take k).map tldS = S at hO hnx hll
        obtain ⟨t, s⟩ := x
        simp only [] at c0 c1 hsz hat
        have bX := nbelow wr (.cells #[.int .i64 t, .string s] 52)
        have hcall := hide (told_any t s (wr.alloc (.cells #[.int .i64 t, .string s] 52)) ((HT.out.below HB2.out).below bX) hat hsz)
        clear hcl hmem hat hsz
        generalize tldS (t, s) = Z at hcall hnx
        have x0 : (wr.alloc (.cells #[.int .i64 t, .string s] 52)).cell? ⟨wr.heap.size, 0, none⟩ = some (.int .i64 t) := by simp
        have x1 : (wr.alloc (.cells #[.int .i64 t, .string s] 52)).cell? ⟨wr.heap.size, 1, none⟩ = some (.string s) := by simp
        have hO1 := hide (hO.out.belowA bX)
        have hB1 := hide (hB.trans (bX.mono hBs))
        clear bX
        go_wp2_with (first | (go_at_call 30; refine hcall.out.mono ?_; rintro e w3 ⟨rfl, B3⟩; have z3 := B3.size) | (at_builtin; refine wpList_appS _ rfl (.tmp 16) (.tmp 19) rfl w1.heap.size (.slice aO k cO) S rfl ((hO1.out.belowA B3).alloc _) w3.heap.size Z rfl (by simp) (k + 1) hll.out (by omega) (by have := hB1.out.size; simp; omega) ?_; intro g4 c4 w4 ho4 hb4 hl4 hc4 hm4 hg4))
        have hgb : Hid (∀ q, (Value.slice aO k cO).ownBlock = some q → w1.heap.size ≤ q) := fun q hq => (hO.out.lt q hq).1
        have hB4 : Below w1.heap.size w1 w4 := ((hB1.out.trans (B3.mono hB1.out.size)).alloc (by have := hB1.out.size; omega) _).grown hg4 (by have := hB1.out.size; simp; omega) hgb.out
        go_roundw
        case rel => exact ⟨k + 1, _, _, by omega, by go_num, rfl, by rw [hnx.out]; exact ho4, hB4⟩
        case measure => simp [intOf]; omega
      · obtain rfl : k = n := by omega
        have nI : ¬ ((k : Int) < (k : Int)) := by omega
        have hxs : Hid (xs.take k = xs) := by unfold Hid; rw [List.take_of_length_le (by rw [HL.out]; exact Nat.le_refl _)]
        rw [hxs.out] at hO
        have hln : Hid ((xs.map tldS).length = k) := by unfold Hid; rw [List.length_map]; exact HL.out
        rcases hO.out.split with ⟨h1, h2⟩ | ⟨g, c, h1, hg1, hg2, hg3, hg4⟩
        · have e := Value.slice.inj h1
          obtain ⟨rfl, rfl, rfl⟩ := e
          have hx : xs = [] := by simpa using h2
          subst hx
          go_wp2_with (go_at_call 31; refine (Tryd.strings_Join_none none 0 ⟨#[44]⟩ wr).mono ?_; rintro e w5 ⟨rfl, rfl⟩)
          refine bodyPost_ret (v := .tuple #[.string ⟨#[]⟩, .int .i64 0]) (by simp [results, Tryd.results10, go_sem]) rfl ⟨rfl, HB2.out⟩
        · simp only [Value.slice.injEq] at h1
          obtain ⟨rfl, hk0, rfl⟩ := h1
          clear hk0
          have hj := hide (Tryd.strings_Join g 0 cO (xs.map tldS) ⟨#[44]⟩ wr hO.out.cells hg2 (by rw [hln.out]; omega) hg3 (by rw [txU_map]; have := HTL.out; omega))
          rw [txU_map, hln.out] at hj
          clear hg3
          go_wp2_with (go_at_call 31; refine hj.out.mono ?_; rintro e w5 ⟨rfl, B5⟩)
          refine bodyPost_ret (v := .tuple #[.string ⟨(txU xs).toArray⟩, .int .i64 0]) (by simp [results, Tryd.results10, go_sem]) rfl ⟨rfl, HB2.out.trans (B5.mono HB2.out.size)⟩

end Go.Proofs.YtgbbgfjamneioaaDoor
