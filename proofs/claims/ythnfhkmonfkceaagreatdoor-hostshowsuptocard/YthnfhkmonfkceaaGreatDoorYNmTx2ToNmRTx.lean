/-
  name.told and name.Text.
  The document's Text of a name.
-/
import Derived.Deep.RegionHeld3
import Derived.Test.YthnfhkmonfkceaaGreatDoorYNmTxtToNmRMay2
import Derived.Test.YthnfhkmonfkceaaGreatDoorYNmMayToNmPut
import Derived.Test.YthnfhkmonfkceaaGreatDoorYNmREnc
namespace Go.Proofs.YthnfhkmonfkceaaGreatDoor
open Go.RowKit Go.IntWalk Go.Shelf

/-- The table of labels lies as it was laid. -/
def TabN (w : World) : Prop := ∀ k : Nat, k < 12 → w.cell? ⟨2, k, none⟩ = some (.string (labS (k : Int)))
theorem TabN.below {w w' : World} (h : TabN w) (hb : Below w.heap.size w w') : TabN w' := fun k hk => (hb.cell (lt_of_cell (h k hk))).trans (h k hk)

theorem attr_seven {t : Int} {l : List UInt8} (h : attrL t l = true) : t = 3 ∨ t = 5 ∨ t = 6 ∨ t = 7 ∨ t = 8 ∨ t = 10 ∨ t = 11 := by
  unfold attrL at h
  split at h
  · omega
  · split at h
    · omega
    · simp only [Bool.and_eq_true] at h
      have := h.1
      unfold plainT at this
      simp at this
      omega
theorem type_nat {t : Int} {l : List UInt8} (h : attrL t l = true) : ∃ k : Nat, t = (k : Int) ∧ k < 12 := by
  have hv : t = 3 ∨ t = 5 ∨ t = 6 ∨ t = 7 ∨ t = 8 ∨ t = 10 ∨ t = 11 := attr_seven h
  rcases hv with rfl | rfl | rfl | rfl | rfl | rfl | rfl
  · exact ⟨3, rfl, by omega⟩
  · exact ⟨5, rfl, by omega⟩
  · exact ⟨6, rfl, by omega⟩
  · exact ⟨7, rfl, by omega⟩
  · exact ⟨8, rfl, by omega⟩
  · exact ⟨10, rfl, by omega⟩
  · exact ⟨11, rfl, by omega⟩
theorem tldS_len (x : Int × ByteArray) : (tldS x).size ≤ 3 + 2 * x.2.size := by
  unfold tldS
  rw [bs_app_len, bs_app_len]
  have h1 := labS_len x.1
  have h2 := mkS_len x.2
  have h3 : (⟨#[61]⟩ : ByteArray).size = 1 := rfl
  omega

/-- What told reads. -/
def ToldAt (B k : Nat) (s L : ByteArray) (W : World) : Prop :=
  W.cell? ⟨B, 0, none⟩ = some (.int .i64 (k : Int)) ∧ W.cell? ⟨B, 1, none⟩ = some (.string s) ∧ W.cell? ⟨2, k, none⟩ = some (.string L)
theorem ToldAt.below {B k : Nat} {s L : ByteArray} {A C : World} (h : ToldAt B k s L A) (hb : Below A.heap.size A C) : ToldAt B k s L C := by
  obtain ⟨r0, r1, r2⟩ := h
  exact ⟨(hb.cell (lt_of_cell r0)).trans r0, (hb.cell (lt_of_cell r1)).trans r1, (hb.cell (lt_of_cell r2)).trans r2⟩

set_option maxRecDepth 100000 in
set_option maxHeartbeats 2000000 in
theorem told_any (t : Int) (s : ByteArray) (w : World) (hT : TabN w) (ha : attrL t s.data.toList = true) (hs : s.size ≤ 1048576) :
    Calls Tryz.prog 88 #[.agg #[.int .i64 t, .string s]] w fun e w' => e = .returned (.string (tldS (t, s))) ∧ Below w.heap.size w w' := by
  obtain ⟨k, rfl, hk⟩ := type_nat ha
  clear ha
  have hB := nbelow w (.cells #[.int .i64 (k : Int), .string s] 67)
  have hSt : ToldAt w.heap.size k s (labS (k : Int)) (w.alloc (.cells #[.int .i64 (k : Int), .string s] 67)) := ⟨by simp, by simp, (hT.below hB) k hk⟩
  have hL := labS_len (k : Int)
  have hm := mkS_len s
  have HM := hide (fun W => marked_any s hs W)
  have HE : Hid (tldS ((k : Int), s) = labS (k : Int) ++ ⟨#[61]⟩ ++ mkS s) := rfl
  generalize tldS ((k : Int), s) = Z at *
  generalize labS (k : Int) = L at *
  generalize mkS s = M at *
  have b1 : ¬ 9223372036854775807 < L.size + 1 := by omega
  have b2 : ¬ 9223372036854775807 < L.size + 1 + M.size := by omega
  have b3 : ¬ 9223372036854775807 < (L ++ (⟨#[61]⟩ : ByteArray)).size + M.size := by rw [bs_app_len]; exact b2
  have HB := hide hB
  have kI : (k : Int) < 12 := by omega
  clear hT hL hm hB
  go_enter Tryz.func88, Tryz.ntmps88
  go_wp2_with fail
  refine wp_region_held_drew (S := ToldAt w.heap.size k s L) (by kernel_rfl) (hSt.below (Below.refl _ _).drew) (fun hS => ?_)
  replace HB := hide (HB.out.drew)
  clear hSt
  generalize (w.alloc (.cells #[.int .i64 (k : Int), .string s] 67)).drew = X0 at *
  refine wpAnyH_take (i := 0) (v := ?_) rfl (by kernel_rfl) (by kernel_rfl) (by kernel_rfl) (fun _ _ _ h => h) (Or.inl ⟨by rfl, ?_⟩) (by assumption) ?_
  rotate_left
  · intro wq hSq
    obtain ⟨r0, r1, r2⟩ := hSq
    go_simp
    try with_reducible rfl
  simp only [List.getElem_toArray, List.getElem_cons_zero, Act.put, List.setIfInBounds_toArray, List.set_cons_zero, List.set_cons_succ]
  refine wpAnyH_take (i := 1) (v := ?_) rfl (by kernel_rfl) (by kernel_rfl) (by kernel_rfl) (fun _ _ _ h => h) (Or.inl ⟨by rfl, ?_⟩) (by assumption) ?_
  rotate_left
  · intro wq hSq
    obtain ⟨r0, r1, r2⟩ := hSq
    go_simp
    try with_reducible rfl
  simp only [List.getElem_toArray, List.getElem_cons_succ, List.getElem_cons_zero, Act.put, List.setIfInBounds_toArray, List.set_cons_zero, List.set_cons_succ]
  refine wpAnyH_take (i := 2) (v := ?_) rfl (by kernel_rfl) (by kernel_rfl) (by kernel_rfl) (fun _ _ _ h => h) (Or.inl ⟨by rfl, ?_⟩) (by assumption) ?_
  rotate_left
  · intro wq hSq
    obtain ⟨r0, r1, r2⟩ := hSq
    go_simp
    try with_reducible rfl
  simp only [List.getElem_toArray, List.getElem_cons_succ, List.getElem_cons_zero, Act.put, List.setIfInBounds_toArray, List.set_cons_zero, List.set_cons_succ]
  refine wpAnyH_take (i := 3) (v := ?_) rfl (by kernel_rfl) (by kernel_rfl) (by kernel_rfl) (fun _ _ _ h => h) (Or.inl ⟨by rfl, ?_⟩) (by assumption) ?_
  rotate_left
  · intro wq hSq
    obtain ⟨r0, r1, r2⟩ := hSq
    go_simp
    try with_reducible rfl
  simp only [List.getElem_toArray, List.getElem_cons_succ, List.getElem_cons_zero, Act.put, List.setIfInBounds_toArray, List.set_cons_zero, List.set_cons_succ]
  refine wpAnyH_take (i := 4) (v := ?_) rfl (by kernel_rfl) (by kernel_rfl) (by kernel_rfl) (fun _ _ _ h => h) (Or.inl ⟨by rfl, ?_⟩) (by assumption) ?_
  rotate_left
  · intro wq hSq
    obtain ⟨r0, r1, r2⟩ := hSq
    go_simp
    try with_reducible rfl
  simp only [List.getElem_toArray, List.getElem_cons_succ, List.getElem_cons_zero, Act.put, List.setIfInBounds_toArray, List.set_cons_zero, List.set_cons_succ]
  refine wpAnyH_take (i := 5) (v := ?_) rfl (by kernel_rfl) (by kernel_rfl) (by kernel_rfl) (fun _ _ _ h => h) (Or.inl ⟨by rfl, ?_⟩) (by assumption) ?_
  rotate_left
  · intro wq hSq
    obtain ⟨r0, r1, r2⟩ := hSq
    go_simp
    try with_reducible rfl
  simp only [List.getElem_toArray, List.getElem_cons_succ, List.getElem_cons_zero, Act.put, List.setIfInBounds_toArray, List.set_cons_zero, List.set_cons_succ]
  refine wpAnyH_take (i := 6) (v := ?_) rfl (by kernel_rfl) (by kernel_rfl) (by kernel_rfl) (fun _ _ _ h => h) (Or.inl ⟨by rfl, ?_⟩) (by assumption) ?_
  rotate_left
  · intro wq hSq
    obtain ⟨r0, r1, r2⟩ := hSq
    go_simp
    try with_reducible rfl
  simp only [List.getElem_toArray, List.getElem_cons_succ, List.getElem_cons_zero, Act.put, List.setIfInBounds_toArray, List.set_cons_zero, List.set_cons_succ]
  refine wpAnyH_ready (rs := [7]) (by kernel_rfl) (by simp) ?_
  refine AllReadyH.cons rfl (fun Kq hKq => ?_) AllReadyH.nil
  go_simp
  refine (HM.out X0).mono ?_
  rintro e w1 ⟨rfl, B1⟩
  refine hKq.out _ _ (hS.below B1) (fun hHeld => ?_)
  clear hKq Kq
  refine wpAnyH_take (i := 8) (v := ?_) rfl (by kernel_rfl) (by kernel_rfl) (by kernel_rfl) (fun _ _ _ h => h) (Or.inl ⟨by rfl, ?_⟩) (by assumption) ?_
  rotate_left
  · intro wq hSq
    obtain ⟨r0, r1, r2⟩ := hSq
    go_simp
    try with_reducible rfl
  simp only [List.getElem_toArray, List.getElem_cons_succ, List.getElem_cons_zero, Act.put, List.setIfInBounds_toArray, List.set_cons_zero, List.set_cons_succ]
  refine wpAnyH_take (i := 9) (v := ?_) rfl (by kernel_rfl) (by kernel_rfl) (by kernel_rfl) (fun _ _ _ h => h) (Or.inl ⟨by rfl, ?_⟩) (by assumption) ?_
  rotate_left
  · intro wq hSq
    obtain ⟨r0, r1, r2⟩ := hSq
    go_simp
    try with_reducible rfl
  simp only [List.getElem_toArray, List.getElem_cons_succ, List.getElem_cons_zero, Act.put, List.setIfInBounds_toArray, List.set_cons_zero, List.set_cons_succ]
  refine wpAnyH_done (by kernel_rfl) ?_ _
  have HB2 := hide (HB.out.trans (B1.mono HB.out.size))
  clear B1 hHeld hS HB
  go_wp2
  go_ret
  exact ⟨by rw [HE.out]; rfl, HB2.out⟩

theorem joinN_snoc (l : List (List UInt8)) (x sep : List UInt8) (h : l ≠ []) : Lib.join (l ++ [x]) sep = Lib.join l sep ++ sep ++ x := by
  cases l with
  | nil => exact absurd rfl h
  | cons y r =>
    rw [List.cons_append, Lib.join_cons, Lib.join_cons]
    unfold Lib.joinTail
    simp [List.map_append, List.append_assoc]
theorem txU_map (n : List (Int × ByteArray)) : Lib.join ((n.map tldS).map (·.data.toList)) (⟨#[44]⟩ : ByteArray).data.toList = txU n := by
  unfold txU
  rw [List.map_map]
  rfl
theorem joinN_len (N : Nat) : ∀ (l : List (List UInt8)), (∀ x ∈ l, x.length ≤ N) → (Lib.join l [44]).length ≤ l.length * (N + 1)
  | [], _ => by simp [Lib.join, List.intercalate]
  | y :: r, h => by
    rw [Lib.join_cons, List.length_append]
    have h1 := h y (by simp)
    have h2 : ∀ (r : List (List UInt8)), (∀ x ∈ r, x.length ≤ N) → (Lib.joinTail [44] r).length ≤ r.length * (N + 1) := by
      intro r
      induction r with
      | nil => intro _; simp [Lib.joinTail]
      | cons z r ih =>
        intro h
        have h3 := h z (by simp)
        have h4 := ih (fun x hx => h x (by simp [hx]))
        unfold Lib.joinTail at *
        simp only [List.map_cons, List.flatten_cons, List.length_append, List.length_cons, List.length_nil]
        rw [Nat.add_mul]
        omega
    have h3 := h2 r (fun x hx => h x (by simp [hx]))
    rw [List.length_cons, Nat.add_mul]
    omega
theorem txU_len {n : List (Int × ByteArray)} (h : nameL n = true) : (txU n).length ≤ 2112 := by
  have h0 := h
  unfold nameL at h
  rw [Bool.and_eq_true] at h
  have hl := of_decide_eq_true h.1
  unfold txU
  have h2 := joinN_len 131 (n.map tldU) (fun x hx => by
    obtain ⟨a, ha, rfl⟩ := List.mem_map.1 hx
    have h3 := attr_short (List.all_eq_true.1 h.2 a ha)
    have h4 := tldS_len a
    have h5 : (tldU a).length = (tldS a).size := by unfold tldU; rw [Array.length_toList]; rfl
    omega)
  rw [List.length_map] at h2
  omega

set_option maxRecDepth 100000 in
set_option maxHeartbeats 2000000 in
theorem textN_any (ao : Option Addr) (n cap : Nat) (xs : List (Int × ByteArray)) (w : World) (hT : TabN w) (hA : Ats w ao n cap xs) (hz : ∀ x ∈ xs, x.2.size ≤ 1048576) :
    Calls Tryz.prog 61 #[.slice ao n cap] w fun e w' => e = .returned (.tuple #[.string (txT xs), .int .i64 (encNE xs)]) ∧ Below w.heap.size w w' := by
  have hM := hide (mayN_any ao n cap xs w hA (fun x hx => by have := hz x hx; omega))
  have HL := hide hA.hl
  have hc := hA.hcap
  have hm := hA.hmax
  unfold maxLen at hm
  have HA := hide hA
  have HZ := hide hz
  have HT := hide hT
  clear hA hz hT
  cases hN : nameL xs with
  | false =>
    have e1 : txT xs = ⟨#[]⟩ := by unfold txT; rw [hN]; rfl
    have e2 : encNE xs = 120 := by unfold encNE; rw [hN]; rfl
    rw [e1, e2]
    rw [hN] at hM
    clear hN e1 e2
    go_enter Tryz.func61, Tryz.ntmps61
    go_wp2_with fail
    refine hM.out.mono ?_
    rintro e w1 ⟨rfl, B1⟩
    go_wp2
    refine bodyPost_ret (v := .tuple #[.string ⟨#[]⟩, .int .i64 120]) (by simp [results, Tryz.results61, go_sem]) rfl ⟨rfl, B1⟩
  | true =>
    have e1 : txT xs = ⟨(txU xs).toArray⟩ := by unfold txT; rw [hN]; rfl
    have e2 : encNE xs = 0 := by unfold encNE; rw [hN]; rfl
    have HTL := hide (txU_len hN)
    have h16 : n ≤ 16 := by
      unfold nameL at hN
      rw [Bool.and_eq_true] at hN
      have := of_decide_eq_true hN.1
      rw [HL.out] at this
      exact this
    have HAT : Hid (∀ x ∈ xs, attrL x.1 x.2.data.toList = true) := by
      unfold nameL at hN
      rw [Bool.and_eq_true] at hN
      exact List.all_eq_true.1 hN.2
    rw [e1, e2]
    rw [hN] at hM
    clear hN e1 e2
    go_enter Tryz.func61, Tryz.ntmps61
    go_wp2_with fail
    refine hM.out.mono ?_
    rintro e w1 ⟨rfl, B1⟩
    have HB := hide B1
    clear B1 hM
    go_wp2
    go_loopw [4, 12] (fun v i wr => ∃ (k : Nat) (aO : Option Addr) (cO : Nat), k ≤ n ∧ i = .int .i64 k ∧ v = .slice aO k cO ∧ Hid (OwnS wr w1.heap.size (.slice aO k cO) ((xs.take k).map tldS)) ∧ Below w1.heap.size w1 wr) (fun _ i _ => n - (intOf i).toNat)
    case atStart => exact ⟨0, none, 0, Nat.zero_le _, rfl, rfl, OwnS.nil _ _, Below.refl _ _⟩
    case round =>
      obtain ⟨k, aO, cO, hk, rfl, rfl, hO, hB⟩ := hrel
      have hBs := hB.size
      have HB2 := hide (HB.out.trans (hB.mono HB.out.size))
      by_cases hlt : k < n
      · have ltI : (k : Int) < (n : Int) := by omega
        obtain ⟨b, off, rfl, hcl⟩ := (HA.out.below HB2.out).hrd (by omega)
        obtain ⟨c0, c1⟩ := hcl k hlt
        have hmem := getD_mem (xs := xs) (i := k) (by rw [HL.out]; exact hlt)
        have hsz := HZ.out _ hmem
        have hat := HAT.out _ hmem
        have hnx : Hid ((xs.take (k + 1)).map tldS = (xs.take k).map tldS ++ [tldS (xs.getD k (0, ByteArray.empty))]) := by
          unfold Hid
          rw [List.take_add_one, List.map_append]
          simp [List.getD, List.getElem?_eq_getElem (show k < xs.length by rw [HL.out]; exact hlt)]
        have hll : Hid (((xs.take k).map tldS).length + 1 = k + 1) := by
          unfold Hid
          rw [List.length_map, List.length_take, HL.out]
          omega
        generalize xs.getD k (0, ByteArray.empty) = x at c0 c1 hsz hat hnx
        generalize (xs.take k).map tldS = S at hO hnx hll
        obtain ⟨t, s⟩ := x
        simp only [] at c0 c1 hsz hat
        have bX := nbelow wr (.cells #[.int .i64 t, .string s] 67)
        have hcall := hide (told_any t s (wr.alloc (.cells #[.int .i64 t, .string s] 67)) ((HT.out.below HB2.out).below bX) hat hsz)
        clear hcl hmem hat hsz
        generalize tldS (t, s) = Z at hcall hnx
        have x0 : (wr.alloc (.cells #[.int .i64 t, .string s] 67)).cell? ⟨wr.heap.size, 0, none⟩ = some (.int .i64 t) := by simp
        have x1 : (wr.alloc (.cells #[.int .i64 t, .string s] 67)).cell? ⟨wr.heap.size, 1, none⟩ = some (.string s) := by simp
        have hO1 := hide (hO.out.belowA bX)
        have hB1 := hide (hB.trans (bX.mono hBs))
        clear bX
        go_wp2_with (first | (go_at_call 88; refine hcall.out.mono ?_; rintro e w3 ⟨rfl, B3⟩; have z3 := B3.size) | (at_builtin; refine wpList_appS _ rfl (.tmp 16) (.tmp 19) rfl w1.heap.size (.slice aO k cO) S rfl ((hO1.out.belowA B3).alloc _) w3.heap.size Z rfl (by simp) (k + 1) hll.out (by omega) (by have := hB1.out.size; simp; omega) ?_; intro g4 c4 w4 ho4 hb4 hl4 hc4 hm4 hg4))
        have hgb : Hid (∀ q, (Value.slice aO k cO).ownBlock = some q → w1.heap.size ≤ q) := fun q hq => (hO.out.lt q hq).1
        have hB4 : Below w1.heap.size w1 w4 := ((hB1.out.trans (B3.mono hB1.out.size)).alloc (by have := hB1.out.size; omega) _).grown hg4 (by have := hB1.out.size; simp; omega) hgb.out
        go_roundw
        case rel => exact ⟨k + 1, _, _, by omega, by go_num, rfl, by rw [hnx.out]; exact ho4, hB4⟩
        case measure => simp [intOf]; omega
      · obtain rfl : k = n := by omega
        have nI : ¬ ((k : Int) < (k : Int)) := by omega
        have hxs : Hid (xs.take k = xs) := by unfold Hid; rw [List.take_of_length_le (by rw [HL.out]; exact Nat.le_refl _)]
        rw [hxs.out] at hO
        have hln : Hid ((xs.map tldS).length = k) := by unfold Hid; rw [List.length_map]; exact HL.out
        rcases hO.out.split with ⟨h1, h2⟩ | ⟨g, c, h1, hg1, hg2, hg3, hg4⟩
        · have e := Value.slice.inj h1
          obtain ⟨rfl, rfl, rfl⟩ := e
          have hx : xs = [] := by simpa using h2
          subst hx
          go_wp2_with (go_at_call 89; refine (Tryz.strings_Join_none none 0 ⟨#[44]⟩ wr).mono ?_; rintro e w5 ⟨rfl, rfl⟩)
          refine bodyPost_ret (v := .tuple #[.string ⟨#[]⟩, .int .i64 0]) (by simp [results, Tryz.results61, go_sem]) rfl ⟨rfl, HB2.out⟩
        · simp only [Value.slice.injEq] at h1
          obtain ⟨rfl, hk0, rfl⟩ := h1
          clear hk0
          have hj := hide (Tryz.strings_Join g 0 cO (xs.map tldS) ⟨#[44]⟩ wr hO.out.cells hg2 (by rw [hln.out]; omega) hg3 (by rw [txU_map]; have := HTL.out; omega))
          rw [txU_map, hln.out] at hj
          clear hg3
          go_wp2_with (go_at_call 89; refine hj.out.mono ?_; rintro e w5 ⟨rfl, B5⟩)
          refine bodyPost_ret (v := .tuple #[.string ⟨(txU xs).toArray⟩, .int .i64 0]) (by simp [results, Tryz.results61, go_sem]) rfl ⟨rfl, HB2.out.trans (B5.mono HB2.out.size)⟩

end Go.Proofs.YthnfhkmonfkceaaGreatDoor

namespace Go.Proofs.YthnfhkmonfkceaaGreatDoor
open Go.RowKit Go.IntWalk Go.Shelf

theorem bs_app (a b : ByteArray) : (a ++ b).data.toList = a.data.toList ++ b.data.toList := by rw [ByteArray.data_append, Array.toList_append]
theorem bs_len (a : ByteArray) : a.data.toList.length = a.size := by rw [Array.length_toList]; rfl
theorem bs_ext {a b : ByteArray} (h : a.data.toList = b.data.toList) : a = b := ByteArray.ext (Array.ext' h)
theorem one_text (W : World) (y : Int) (h : 0 ≤ y ∧ y < 256) : (convert 43 9 (.slice (some ⟨W.heap.size, 0, none⟩) 1 1)).run Tryz.prog (W.alloc (.cells #[.int .u8 y] 5)) = .ok (.string (strOfNums [y])) (W.alloc (.cells #[.int .u8 y] 5)) :=
  (Src.lit [y] _ 1 rfl rfl (by simp; exact h) (by decide)).text
theorem one_list (x : UInt8) : (strOfNums [(x.toNat : Int)]).data.toList = [x] := by
  have h := nums_text [x]
  have e : nums [x] = [(x.toNat : Int)] := rfl
  rw [e] at h
  rw [h]
theorem tldU_eq (t : Int) (s : ByteArray) : tldU (t, s) = (labS t).data.toList ++ [61] ++ markU s.data.toList := by
  unfold tldU tldS mkS
  rw [bs_app, bs_app]

set_option maxRecDepth 100000 in
set_option maxHeartbeats 4000000 in
theorem rtextN_any (ao : Option Addr) (n cap : Nat) (xs : List (Int × ByteArray)) (w : World) (hA : Ats w ao n cap xs) (hz : ∀ x ∈ xs, x.2.size ≤ 1048576) :
    Calls Tryz.prog 16 #[.slice ao n cap] w fun e w' => e = .returned (.tuple #[.string (txT xs), .int .i64 (encNE xs)]) ∧ Below w.heap.size w w' := by
  have hM := hide (rmayN_any ao n cap xs w hA (fun x hx => by have := hz x hx; omega))
  have HL := hide hA.hl
  have hc := hA.hcap
  have hm := hA.hmax
  unfold maxLen at hm
  have HA := hide hA
  clear hA hz
  cases hN : nameL xs with
  | false =>
    have e1 : txT xs = ⟨#[]⟩ := by unfold txT; rw [hN]; rfl
    have e2 : encNE xs = 120 := by unfold encNE; rw [hN]; rfl
    rw [e1, e2]
    rw [hN] at hM
    clear hN e1 e2
    go_enter Tryz.func16, Tryz.ntmps16
    go_wp2_with fail
    refine hM.out.mono ?_
    rintro e w1 ⟨rfl, B1⟩
    go_wp2
    refine bodyPost_ret (v := .tuple #[.string ⟨#[]⟩, .int .i64 120]) (by simp [results, Tryz.results16, go_sem]) rfl ⟨rfl, B1⟩
  | true =>
    have e1 : txT xs = ⟨(txU xs).toArray⟩ := by unfold txT; rw [hN]; rfl
    have e2 : encNE xs = 0 := by unfold encNE; rw [hN]; rfl
    have h16 : n ≤ 16 := by
      unfold nameL at hN
      rw [Bool.and_eq_true] at hN
      have := of_decide_eq_true hN.1
      rw [HL.out] at this
      exact this
    have HAT : Hid (∀ x ∈ xs, attrL x.1 x.2.data.toList = true) := by
      unfold nameL at hN
      rw [Bool.and_eq_true] at hN
      exact List.all_eq_true.1 hN.2
    have HJL : Hid (∀ k, k ≤ 16 → (Lib.join ((xs.take k).map tldU) [44]).length ≤ 2112) := fun k hk => by
      have h2 := joinN_len 131 ((xs.take k).map tldU) (fun x hx => by
        obtain ⟨a, ha, rfl⟩ := List.mem_map.1 hx
        have h3 := attr_short (HAT.out a (List.mem_of_mem_take ha))
        have h4 := tldS_len a
        have h5 : (tldU a).length = (tldS a).size := by unfold tldU; rw [Array.length_toList]; rfl
        omega)
      rw [List.length_map] at h2
      have h6 := List.length_take_le k xs
      omega
    rw [e1, e2]
    rw [hN] at hM
    clear hN e1 e2
    go_enter Tryz.func16, Tryz.ntmps16
    go_wp2_with fail
    refine hM.out.mono ?_
    rintro e w1 ⟨rfl, B1⟩
    have HB := hide B1
    clear B1 hM
    go_wp2
    go_loopw [4, 5] (fun v i wr => ∃ (k : Nat) (D : ByteArray), k ≤ n ∧ i = .int .i64 k ∧ v = .string D ∧ Hid (D.data.toList = Lib.join ((xs.take k).map tldU) [44]) ∧ Below w1.heap.size w1 wr) (fun _ i _ => n - (intOf i).toNat)
    case atStart => exact ⟨0, ⟨#[]⟩, Nat.zero_le _, rfl, rfl, by unfold Hid; simp [Lib.join, List.intercalate], Below.refl _ _⟩
    case round =>
      obtain ⟨k, D, hk, rfl, rfl, hD, hB⟩ := hrel
      have HB2 := hide (HB.out.trans (hB.mono HB.out.size))
      by_cases hlt : k < n
      · have ltI : (k : Int) < (n : Int) := by omega
        obtain ⟨b, off, rfl, hcl⟩ := (HA.out.below HB2.out).hrd (by omega)
        obtain ⟨c0, c1⟩ := hcl k hlt
        have hmem := getD_mem (xs := xs) (i := k) (by rw [HL.out]; exact hlt)
        have hat := HAT.out _ hmem
        have hnx : (xs.take (k + 1)).map tldU = (xs.take k).map tldU ++ [tldU (xs.getD k (0, ByteArray.empty))] := by
          rw [List.take_add_one, List.map_append]
          simp [List.getD, List.getElem?_eq_getElem (show k < xs.length by rw [HL.out]; exact hlt)]
        have hDs : D.size ≤ 2112 := by
          have h1 := bs_len D
          rw [hD.out] at h1
          have := HJL.out k (by omega)
          omega
        obtain ⟨x, hxk0⟩ : ∃ x, xs.getD k (0, ByteArray.empty) = x := ⟨_, rfl⟩
        rw [hxk0] at c0 c1 hat hnx
        obtain ⟨t, s⟩ := x
        have hxk := hide hxk0
        simp only [] at c0 c1 hat
        have hsz := attr_short hat
        have hLl := labS_len t
        have hte := tldU_eq t s
        clear hcl hmem hat hxk0
        by_cases hk0 : k = 0
        · have kI : ¬ ((k : Int) > 0) := by omega
          have hD0 : D.data.toList = [] := by rw [hD.out, hk0]; rfl
          have hT0 : (xs.take k).map tldU = [] := by rw [hk0]; rfl
          obtain ⟨D2, hD2⟩ : ∃ D2, D ++ labS t ++ (⟨#[61]⟩ : ByteArray) = D2 := ⟨_, rfl⟩
          have HNX : Hid (D2.data.toList ++ markU s.data.toList = Lib.join ((xs.take (k + 1)).map tldU) [44]) := by
            unfold Hid
            rw [hnx, hT0, ← hD2, bs_app, bs_app, hD0, hte]
            simp [Lib.join_one]
          have HK0 := hide hk0
          clear hk0 hT0
          have hD2s : D2.size ≤ 2117 := by rw [← hD2, bs_app_len, bs_app_len]; have h3 : (⟨#[61]⟩ : ByteArray).size = 1 := rfl; omega
          have f1 : ¬ 9223372036854775807 < D.size + (labS t).size := by omega
          have f2 : ¬ 9223372036854775807 < D.size + (labS t).size + 1 := by omega
          have f3 : ¬ 9223372036854775807 < (D ++ labS t).size + 1 := by rw [bs_app_len]; exact f2
          have HTE := hide hte
          clear hte hnx hD0 hDs hLl
          obtain ⟨wo, rfl⟩ : ∃ wo : World, wo = wr := ⟨_, rfl⟩
          go_wp2_with fail
          refine (label_any t _).mono ?_
          rintro e wl ⟨rfl, B3⟩
          have HB3 := hide (hB.trans (B3.mono hB.size))
          have HBW := hide (HB.out.trans (HB3.out.mono HB.out.size))
          clear B3
          go_wp2
          go_loopw [4, 6] (fun v i wi => ∃ (j : Nat) (E : ByteArray), j ≤ s.size ∧ i = .int .i64 j ∧ v = .string E ∧ Hid (E.data.toList = D2.data.toList ++ markU (s.data.toList.take j)) ∧ Below w1.heap.size w1 wi) (fun _ i _ => s.size - (intOf i).toNat)
          case atStart => exact ⟨0, D2, Nat.zero_le _, rfl, rfl, by unfold Hid; simp [markU], HB3.out⟩
          case round =>
            obtain ⟨j, E, hj, rfl, rfl, hE, hBi⟩ := hrel
            have HBi := hide (HB.out.trans (hBi.mono HB.out.size))
            obtain ⟨b', off', hb', hcl'⟩ := (HA.out.below HBi.out).hrd (by omega)
            cases hb'
            obtain ⟨_, c1'⟩ := hcl' k hlt
            rw [hxk.out] at c1'
            simp only [] at c1'
            clear hcl'
            by_cases hjl : j < s.size
            · have ltJ : (j : Int) < (s.size : Int) := by omega
              have hsn := hide (markU_snoc s.data.toList j (by rw [bs_len]; exact hjl))
              obtain ⟨x, hx⟩ : ∃ x, (s[j]'hjl) = x := ⟨_, rfl⟩
              have hxd : s.data.toList.getD j 0 = x := by rw [← get_bs s j hjl]; exact hx
              rw [hxd] at hsn
              have hxI : ((s[j]'hjl).toNat : Int) = (x.toNat : Int) := by rw [hx]
              have hx256 := x.toNat_lt
              have hZ := one_list x
              obtain ⟨y, hy⟩ : ∃ y : Int, (x.toNat : Int) = y := ⟨_, rfl⟩
              rw [hy] at hxI hZ
              have hy0 : 0 ≤ y ∧ y < 256 := by omega
              have hcv := one_text wr y hy0
              generalize hZ1 : strOfNums [y] = Z1 at hcv hZ
              have HY := hide hy
              have hZs : Z1.size = 1 := by rw [← bs_len, hZ]; rfl
              have hEs : E.size ≤ 2400 := by
                have h1 := bs_len E
                rw [hE.out, List.length_append, bs_len] at h1
                have h2 := markU_len (s.data.toList.take j)
                have h3 := List.length_take_le j s.data.toList
                omega
              have e1 : ¬ 9223372036854775807 < E.size + 1 := by omega
              have e2 : ¬ 9223372036854775807 < E.size + Z1.size := by omega
              have e3 : ¬ 9223372036854775807 < E.size + 1 + Z1.size := by omega
              have e4 : ¬ 9223372036854775807 < (E ++ (⟨#[92]⟩ : ByteArray)).size + Z1.size := by rw [bs_app_len]; exact e3
              have HZ := hide hZ
              have HZS := hide hZs
              clear hxd hZ1 hZ hZs hEs
              by_cases hsp : spB x = true
              · have HN : Hid ((E ++ (⟨#[92]⟩ : ByteArray) ++ Z1).data.toList = D2.data.toList ++ markU (s.data.toList.take (j + 1))) := by
                  unfold Hid
                  rw [hsn.out, if_pos hsp, bs_app, bs_app, hE.out, HZ.out]
                  simp
                have hc : (y == 44) = true ∨ ((y == 44) = false ∧ (y == 92) = true) := by
                  unfold spB at hsp
                  simp only [Bool.or_eq_true, beq_iff_eq] at hsp
                  by_cases h44 : x = 44
                  · left; subst h44; rw [← HY.out]; rfl
                  · right
                    rcases hsp with h | h
                    · exact absurd h h44
                    · subst h; rw [← HY.out]; exact ⟨rfl, rfl⟩
                clear hsp hsn hx hy
                rcases hc with q1 | ⟨q1, q2⟩
                · go_wp2
                  go_roundw
                  case rel => exact ⟨j + 1, _, by omega, by go_num, rfl, HN, hBi.trans ((nbelow wr (.cells #[.int .u8 y] 5)).mono hBi.size)⟩
                  case measure => simp [intOf]; omega
                · go_wp2
                  go_roundw
                  case rel => exact ⟨j + 1, _, by omega, by go_num, rfl, HN, hBi.trans ((nbelow wr (.cells #[.int .u8 y] 5)).mono hBi.size)⟩
                  case measure => simp [intOf]; omega
              · have HN : Hid ((E ++ Z1).data.toList = D2.data.toList ++ markU (s.data.toList.take (j + 1))) := by
                  unfold Hid
                  rw [hsn.out, if_neg hsp, bs_app, hE.out, HZ.out]
                  simp
                have hc : (y == 44) = false ∧ (y == 92) = false := by
                  unfold spB at hsp
                  simp only [Bool.or_eq_true, beq_iff_eq, not_or] at hsp
                  rw [← HY.out]
                  refine ⟨beq_eq_false_iff_ne.2 (fun e => hsp.1 ?_), beq_eq_false_iff_ne.2 (fun e => hsp.2 ?_)⟩
                  · apply UInt8.toNat_inj.1; show x.toNat = 44; omega
                  · apply UInt8.toNat_inj.1; show x.toNat = 92; omega
                obtain ⟨q1, q2⟩ := hc
                clear hsp hsn hx hy
                go_wp2
                go_roundw
                case rel => exact ⟨j + 1, _, by omega, by go_num, rfl, HN, hBi.trans ((nbelow wr (.cells #[.int .u8 y] 5)).mono hBi.size)⟩
                case measure => simp [intOf]; omega
            · obtain rfl : j = s.size := by omega
              have nJ : ¬ ((s.size : Int) < (s.size : Int)) := by omega
              have hall : s.data.toList.take s.size = s.data.toList := List.take_of_length_le (by rw [bs_len]; exact Nat.le_refl _)
              rw [hall] at hE
              have hNX : Hid (E.data.toList = Lib.join ((xs.take (k + 1)).map tldU) [44]) := by
                unfold Hid
                rw [hE.out]
                exact HNX.out
              clear hall
              go_wp2
              go_roundw
              case rel => exact ⟨k + 1, E, by omega, by go_num, rfl, hNX, hBi⟩
              case measure => simp [intOf]; omega
        · have kI : (k : Int) > 0 := by omega
          have hne : (xs.take k).map tldU ≠ [] := by
            intro e
            have h1 := congrArg List.length e
            rw [List.length_map, List.length_take, HL.out, List.length_nil] at h1
            omega
          obtain ⟨D2, hD2⟩ : ∃ D2, D ++ (⟨#[44]⟩ : ByteArray) ++ labS t ++ (⟨#[61]⟩ : ByteArray) = D2 := ⟨_, rfl⟩
          have HNX : Hid (D2.data.toList ++ markU s.data.toList = Lib.join ((xs.take (k + 1)).map tldU) [44]) := by
            unfold Hid
            rw [hnx, joinN_snoc _ _ _ hne, ← hD2, bs_app, bs_app, bs_app, hD.out, hte]
            simp
          have h61 : (⟨#[61]⟩ : ByteArray).size = 1 := rfl
          have h44 : (⟨#[44]⟩ : ByteArray).size = 1 := rfl
          have hD2s : D2.size ≤ 2117 := by rw [← hD2, bs_app_len, bs_app_len, bs_app_len]; omega
          have f0 : ¬ 9223372036854775807 < D.size + 1 := by omega
          have f1 : ¬ 9223372036854775807 < D.size + 1 + (labS t).size := by omega
          have f2 : ¬ 9223372036854775807 < D.size + 1 + (labS t).size + 1 := by omega
          have f3 : ¬ 9223372036854775807 < (D ++ (⟨#[44]⟩ : ByteArray)).size + (labS t).size := by rw [bs_app_len]; exact f1
          have f4 : ¬ 9223372036854775807 < (D ++ (⟨#[44]⟩ : ByteArray) ++ labS t).size + 1 := by rw [bs_app_len, bs_app_len]; exact f2
          clear hte hnx hDs hLl hne h61 h44
          obtain ⟨wo, rfl⟩ : ∃ wo : World, wo = wr := ⟨_, rfl⟩
          go_wp2_with fail
          refine (label_any t _).mono ?_
          rintro e wl ⟨rfl, B3⟩
          have HB3 := hide (hB.trans (B3.mono hB.size))
          have HBW := hide (HB.out.trans (HB3.out.mono HB.out.size))
          clear B3
          go_wp2
          go_loopw [4, 6] (fun v i wi => ∃ (j : Nat) (E : ByteArray), j ≤ s.size ∧ i = .int .i64 j ∧ v = .string E ∧ Hid (E.data.toList = D2.data.toList ++ markU (s.data.toList.take j)) ∧ Below w1.heap.size w1 wi) (fun _ i _ => s.size - (intOf i).toNat)
          case atStart => exact ⟨0, D2, Nat.zero_le _, rfl, rfl, by unfold Hid; simp [markU], HB3.out⟩
          case round =>
            obtain ⟨j, E, hj, rfl, rfl, hE, hBi⟩ := hrel
            have HBi := hide (HB.out.trans (hBi.mono HB.out.size))
            obtain ⟨b', off', hb', hcl'⟩ := (HA.out.below HBi.out).hrd (by omega)
            cases hb'
            obtain ⟨_, c1'⟩ := hcl' k hlt
            rw [hxk.out] at c1'
            simp only [] at c1'
            clear hcl'
            by_cases hjl : j < s.size
            · have ltJ : (j : Int) < (s.size : Int) := by omega
              have hsn := hide (markU_snoc s.data.toList j (by rw [bs_len]; exact hjl))
              obtain ⟨x, hx⟩ : ∃ x, (s[j]'hjl) = x := ⟨_, rfl⟩
              have hxd : s.data.toList.getD j 0 = x := by rw [← get_bs s j hjl]; exact hx
              rw [hxd] at hsn
              have hxI : ((s[j]'hjl).toNat : Int) = (x.toNat : Int) := by rw [hx]
              have hx256 := x.toNat_lt
              have hZ := one_list x
              obtain ⟨y, hy⟩ : ∃ y : Int, (x.toNat : Int) = y := ⟨_, rfl⟩
              rw [hy] at hxI hZ
              have hy0 : 0 ≤ y ∧ y < 256 := by omega
              have hcv := one_text wr y hy0
              generalize hZ1 : strOfNums [y] = Z1 at hcv hZ
              have HY := hide hy
              have hZs : Z1.size = 1 := by rw [← bs_len, hZ]; rfl
              have hEs : E.size ≤ 2400 := by
                have h1 := bs_len E
                rw [hE.out, List.length_append, bs_len] at h1
                have h2 := markU_len (s.data.toList.take j)
                have h3 := List.length_take_le j s.data.toList
                omega
              have e1 : ¬ 9223372036854775807 < E.size + 1 := by omega
              have e2 : ¬ 9223372036854775807 < E.size + Z1.size := by omega
              have e3 : ¬ 9223372036854775807 < E.size + 1 + Z1.size := by omega
              have e4 : ¬ 9223372036854775807 < (E ++ (⟨#[92]⟩ : ByteArray)).size + Z1.size := by rw [bs_app_len]; exact e3
              have HZ := hide hZ
              have HZS := hide hZs
              clear hxd hZ1 hZ hZs hEs
              by_cases hsp : spB x = true
              · have HN : Hid ((E ++ (⟨#[92]⟩ : ByteArray) ++ Z1).data.toList = D2.data.toList ++ markU (s.data.toList.take (j + 1))) := by
                  unfold Hid
                  rw [hsn.out, if_pos hsp, bs_app, bs_app, hE.out, HZ.out]
                  simp
                have hc : (y == 44) = true ∨ ((y == 44) = false ∧ (y == 92) = true) := by
                  unfold spB at hsp
                  simp only [Bool.or_eq_true, beq_iff_eq] at hsp
                  by_cases h44 : x = 44
                  · left; subst h44; rw [← HY.out]; rfl
                  · right
                    rcases hsp with h | h
                    · exact absurd h h44
                    · subst h; rw [← HY.out]; exact ⟨rfl, rfl⟩
                clear hsp hsn hx hy
                rcases hc with q1 | ⟨q1, q2⟩
                · go_wp2
                  go_roundw
                  case rel => exact ⟨j + 1, _, by omega, by go_num, rfl, HN, hBi.trans ((nbelow wr (.cells #[.int .u8 y] 5)).mono hBi.size)⟩
                  case measure => simp [intOf]; omega
                · go_wp2
                  go_roundw
                  case rel => exact ⟨j + 1, _, by omega, by go_num, rfl, HN, hBi.trans ((nbelow wr (.cells #[.int .u8 y] 5)).mono hBi.size)⟩
                  case measure => simp [intOf]; omega
              · have HN : Hid ((E ++ Z1).data.toList = D2.data.toList ++ markU (s.data.toList.take (j + 1))) := by
                  unfold Hid
                  rw [hsn.out, if_neg hsp, bs_app, hE.out, HZ.out]
                  simp
                have hc : (y == 44) = false ∧ (y == 92) = false := by
                  unfold spB at hsp
                  simp only [Bool.or_eq_true, beq_iff_eq, not_or] at hsp
                  rw [← HY.out]
                  refine ⟨beq_eq_false_iff_ne.2 (fun e => hsp.1 ?_), beq_eq_false_iff_ne.2 (fun e => hsp.2 ?_)⟩
                  · apply UInt8.toNat_inj.1; show x.toNat = 44; omega
                  · apply UInt8.toNat_inj.1; show x.toNat = 92; omega
                obtain ⟨q1, q2⟩ := hc
                clear hsp hsn hx hy
                go_wp2
                go_roundw
                case rel => exact ⟨j + 1, _, by omega, by go_num, rfl, HN, hBi.trans ((nbelow wr (.cells #[.int .u8 y] 5)).mono hBi.size)⟩
                case measure => simp [intOf]; omega
            · obtain rfl : j = s.size := by omega
              have nJ : ¬ ((s.size : Int) < (s.size : Int)) := by omega
              have hall : s.data.toList.take s.size = s.data.toList := List.take_of_length_le (by rw [bs_len]; exact Nat.le_refl _)
              rw [hall] at hE
              have hNX : Hid (E.data.toList = Lib.join ((xs.take (k + 1)).map tldU) [44]) := by
                unfold Hid
                rw [hE.out]
                exact HNX.out
              clear hall
              go_wp2
              go_roundw
              case rel => exact ⟨k + 1, E, by omega, by go_num, rfl, hNX, hBi⟩
              case measure => simp [intOf]; omega
      · obtain rfl : k = n := by omega
        have nI : ¬ ((k : Int) < (k : Int)) := by omega
        have hxs : xs.take k = xs := List.take_of_length_le (by rw [HL.out]; exact Nat.le_refl _)
        rw [hxs] at hD
        have hDX : D = ⟨(txU xs).toArray⟩ := bs_ext (by rw [hD.out]; rfl)
        subst hDX
        clear hD hxs
        go_wp2
        refine bodyPost_ret (v := .tuple #[.string ⟨(txU xs).toArray⟩, .int .i64 0]) (by simp [results, Tryz.results16, go_sem]) rfl ⟨rfl, HB2.out⟩

end Go.Proofs.YthnfhkmonfkceaaGreatDoor
