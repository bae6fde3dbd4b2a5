/-
  name.encoded: the bytes of an attribute. Printed by genc.py.
-/
import Derived.Lib.ConvBytes
import Derived.Deep.RegionHeld3
import Derived.Test.YtklchpdpooikdaaGreatDoorXNmMayToNmPut
import Derived.Test.YtklchpdpooikdaaGreatDoorXTxW1ToTxF1
namespace Go.Proofs.YtklchpdpooikdaaGreatDoor
open Go.RowKit Go.IntWalk Go.Shelf

/-- '[]byte(s)'. -/
theorem conv_any (s : ByteArray) (hs : s.size ≤ 1048576) (w : World) :
    ∃ cap w', (convert 9 64 (.string s)).run Tryz.prog w = .ok (.slice (some ⟨w.heap.size, 0, none⟩) s.size cap) w' ∧ Src w' (some ⟨w.heap.size, 0, none⟩) s.size cap (nums s.data.toList) ∧ Below w.heap.size w w' := by
  have hr := Lib.run_convert_string_bytes (P := Tryz.prog) w 9 64 5 s Tryz.underlying9 Tryz.underlying64 Tryz.underlying5
  have hz := Lib.bytesWorld_size w 5 s
  have hc := grownCap_ge w s.size 0 5
  have hl := size_len s
  refine ⟨_, _, hr, ⟨by unfold nums; rw [List.length_map, hl], hc, grownCap_le_maxLen w s.size 0 5 (by unfold maxLen; omega), by simp, ?_, ?_⟩, ⟨rfl, rfl, rfl, by rw [hz]; omega, fun k hk => Lib.bytesWorld_at_old w 5 s k hk⟩⟩
  · intro _
    refine ⟨w.heap.size, 0, rfl, fun i hi => ?_⟩
    have hi2 : i < s.size := by unfold nums at hi; rw [List.length_map, hl] at hi; exact hi
    rw [Nat.zero_add, Lib.bytesWorld_cell w 5 s i hi2]
    unfold nums
    have hi3 : i < s.data.toList.length := by rw [hl]; exact hi2
    simp only [List.getD, List.getElem?_map, List.getElem?_eq_getElem hi3, Option.map_some, Option.getD_some]
  · intro x hx
    unfold nums at hx
    obtain ⟨b, _, rfl⟩ := List.mem_map.1 hx
    have := b.toNat_lt
    omega

/-- What stands when both chains have come up. -/
structure Mid (w : World) (s : ByteArray) (P6 : List Int) (W : World) (x1 : Option Addr) (m1 c1 a6 c6 a7 : Nat) : Prop where
  bel : Below w.heap.size w W
  cS : W.cell? ⟨w.heap.size, 1, none⟩ = some (.string s)
  r7 : W.cell? ⟨a7, 0, none⟩ = some (.slice (some ⟨a6, 0, none⟩) s.size c6)
  s6 : Src W (some ⟨a6, 0, none⟩) s.size c6 (nums s.data.toList)
  o1 : Src W x1 m1 c1 P6
theorem mk_mid {w : World} {s : ByteArray} {P6 : List Int} {P : World → Nat → Option Addr → Nat → Nat → Nat → Nat → Nat → Prop} {G : Prop} (h : Hid (∀ W a1 x1 m1 c1 a6 c6 a7, Mid w s P6 W x1 m1 c1 a6 c6 a7 → P W a1 x1 m1 c1 a6 c6 a7) → G) (k : ∀ W a1 x1 m1 c1 a6 c6 a7, Mid w s P6 W x1 m1 c1 a6 c6 a7 → P W a1 x1 m1 c1 a6 c6 a7) : G := h k

/-- The bytes of an attribute. -/
def idB (t : Int) : List Int := encC [2, 5, 4, t]
def putB (tag : Int) (ls : List (List Int)) : List Int := (putS [] tag ls).1
def encA (t : Int) (s : ByteArray) : List Int := putB 49 [putB 48 [putB 6 [idB t], putB (kindL s.data.toList).1 [nums s.data.toList]]]
theorem id_src (W : World) (t : Int) (ht : 0 ≤ t ∧ t ≤ 255) : SrcI (W.alloc (.cells #[.int .i64 2, .int .i64 5, .int .i64 4, .int .i64 t] 3)) (some ⟨W.heap.size, 0, none⟩) 4 4 [2, 5, 4, t] := SrcI.lit [2, 5, 4, t] _ 4 rfl rfl (by intro x hx; simp at hx; omega) (by decide)
theorem nums_byte (l : List UInt8) : Byt (nums l) := by
  intro x hx
  unfold nums at hx
  obtain ⟨b, _, rfl⟩ := List.mem_map.1 hx
  have := b.toNat_lt
  omega
theorem putB_byte (tag : Int) (ls : List (List Int)) (h : ∀ l ∈ ls, Byt l) : Byt (putB tag ls) := putS_byte tag ls h
theorem encA_byte (t : Int) (s : ByteArray) : Byt (encA t s) := by
  unfold encA
  refine putB_byte _ _ (fun l hl => ?_)
  simp at hl; subst hl
  refine putB_byte _ _ (fun l hl => ?_)
  simp at hl
  rcases hl with rfl | rfl
  · exact putB_byte _ _ (fun l hl => by simp at hl; subst hl; exact encC_byte _)
  · exact putB_byte _ _ (fun l hl => by simp at hl; subst hl; exact nums_byte _)

set_option maxRecDepth 100000 in
set_option maxHeartbeats 4000000 in
theorem encoded_any (t : Int) (s : ByteArray) (ht : 0 ≤ t ∧ t ≤ 255) (hs : s.size ≤ 1048576) (w : World) :
    Calls Tryz.prog 152 #[.agg #[.int .i64 t, .string s]] w fun e w' => ∃ a m c, e = .returned (.slice a m c) ∧ OwnB w' w.heap.size (.slice a m c) (encA t s) ∧ Below w.heap.size w w' := by
  have hK := hide (fun W => kind_any s (by omega) W)
  have BX := nbelow w (.cells #[.int .i64 t, .string s] 111)
  have cT : (w.alloc (.cells #[.int .i64 t, .string s] 111)).cell? ⟨w.heap.size, 0, none⟩ = some (.int .i64 t) := by simp
  have cS : (w.alloc (.cells #[.int .i64 t, .string s] 111)).cell? ⟨w.heap.size, 1, none⟩ = some (.string s) := by simp
  obtain ⟨ID, hID⟩ : ∃ x, idB t = x := ⟨_, rfl⟩
  obtain ⟨er, hER⟩ : ∃ x, encE [2, 5, 4, t] = x := ⟨_, rfl⟩
  have hI : Hid (∀ W : World, Calls Tryz.prog 172 #[.slice (some ⟨W.heap.size, 0, none⟩) 4 4] (W.alloc (.cells #[.int .i64 2, .int .i64 5, .int .i64 4, .int .i64 t] 3)) fun e w' => ∃ ao' nI c', e = .returned (.tuple #[.slice ao' nI c', .int .i64 er]) ∧ OwnB w' (W.heap.size + 1) (.slice ao' nI c') ID ∧ Below (W.heap.size + 1) (W.alloc (.cells #[.int .i64 2, .int .i64 5, .int .i64 4, .int .i64 t] 3)) w') := fun W => by
    refine (encode_any (some ⟨W.heap.size, 0, none⟩) 4 4 [2, 5, 4, t] (W.alloc (.cells #[.int .i64 2, .int .i64 5, .int .i64 4, .int .i64 t] 3)) (id_src W t ht)).mono ?_
    rintro e w' ⟨ao, c, h1, h2, h3⟩
    rw [World.size_alloc] at h2 h3
    refine ⟨ao, (encC [2, 5, 4, t]).length, c, ?_, ?_, h3⟩
    · rw [← hER]; exact h1
    · rw [← hID]; exact h2
  have hIB : Byt ID := by rw [← hID]; exact encC_byte _
  have p6 : Byt (putS [] 6 [ID]).1 := putS_byte _ _ (fun l hl => by simp at hl; subst hl; exact hIB)
  have HID := hide hID
  clear hID hER
  have hI2 := hide (hI.out (w.alloc (.cells #[.int .i64 t, .string s] 111)))
  have hz : (w.alloc (.cells #[.int .i64 t, .string s] 111)).heap.size = w.heap.size + 1 := by simp
  rw [hz] at hI2
  go_enter Tryz.func152, Tryz.ntmps152
  go_wp2_with fail
  refine hI2.out.mono ?_
  rintro e V1 ⟨aI, nI, cI, rfl, oI, B1⟩
  rw [← hz] at oI B1
  clear hI2 hz
  generalize w.alloc (.cells #[.int .i64 t, .string s] 111) = V0 at *
  have B1' : Below V0.heap.size V0 V1 := (nbelow V0 (.cells #[.int .i64 2, .int .i64 5, .int .i64 4, .int .i64 t] 3)).trans (B1.mono (Nat.le_succ _))
  replace oI : OwnB V1 w.heap.size (.slice aI nI cI) ID := oI.rebase (by have := BX.size; omega)
  have cS1 := (B1'.cell (p := ⟨w.heap.size, 1, none⟩) (lt_of_cell cS)).trans cS
  have HB := BX.trans (B1'.mono BX.size)
  clear B1 B1' cS BX hI cT
  go_wp2_with fail
  refine (hK.out _).mono ?_
  rintro e V2 ⟨rfl, B2⟩
  replace cS1 := (B2.cell (p := ⟨w.heap.size, 1, none⟩) (lt_of_cell cS1)).trans cS1
  replace HB := HB.trans (B2.mono HB.size)
  have sI : Src V2 aI nI cI ID := (oI.belowA B2).toSrc hIB
  clear B2 oI hK
  generalize hkd : (kindL s.data.toList).1 = kd
  go_wp2_with fail
  refine wp_region_held_drew (S := fun W => W.cell? ⟨w.heap.size, 1, none⟩ = some (.string s)) (by kernel_rfl) cS1 (fun cS => ?_)
  replace sI : Src V2.drew aI nI cI ID := sI.heap rfl
  replace HB := HB.drew
  clear cS1
  generalize V2.drew = X0 at *
  refine wpAnyH_take (i := 0) (v := ?_) rfl (by kernel_rfl) (by kernel_rfl) (by kernel_rfl) (fun _ _ _ h => h) (Or.inl ⟨by rfl, ?_⟩) (by assumption) ?_
  rotate_left
  · intro wq hSq
    go_simp
    try with_reducible rfl
  simp only [List.getElem_toArray, List.getElem_cons_zero, Act.put, List.setIfInBounds_toArray, List.set_cons_zero, List.set_cons_succ]
  refine wpAnyH_take (i := 3) (v := ?_) rfl (by kernel_rfl) (by kernel_rfl) (by kernel_rfl) (fun _ _ _ h => h) (Or.inl ⟨by rfl, ?_⟩) (by assumption) ?_
  rotate_left
  · intro wq hSq
    go_simp
    try with_reducible rfl
  simp only [List.getElem_toArray, List.getElem_cons_succ, List.getElem_cons_zero, Act.put, List.setIfInBounds_toArray, List.set_cons_zero, List.set_cons_succ]
  refine wpAnyH_take (i := 4) (v := ?_) rfl (by kernel_rfl) (by kernel_rfl) (by kernel_rfl) (fun _ _ _ h => h) (Or.inl ⟨by rfl, ?_⟩) (by assumption) ?_
  rotate_left
  · intro wq hSq
    go_simp
    try with_reducible rfl
  simp only [List.getElem_toArray, List.getElem_cons_succ, List.getElem_cons_zero, Act.put, List.setIfInBounds_toArray, List.set_cons_zero, List.set_cons_succ]
  refine wpAnyH_take (i := 5) (v := ?_) rfl (by kernel_rfl) (by kernel_rfl) (by kernel_rfl) (fun _ _ _ h => h) (Or.inl ⟨by rfl, ?_⟩) (by assumption) ?_
  rotate_left
  · intro wq hSq
    go_simp
    try with_reducible rfl
  simp only [List.getElem_toArray, List.getElem_cons_succ, List.getElem_cons_zero, Act.put, List.setIfInBounds_toArray, List.set_cons_zero, List.set_cons_succ]
  refine' mk_mid (w := w) (s := s) (P6 := (putS [] 6 [ID]).1) (fun REST => ?_) ?_
  rotate_left
  · skip
    refine wpAnyH_ready (rs := [1, 6]) (by kernel_rfl) (by simp) ?_
    refine (AllReadyH.cons rfl (fun Kq hKq => ?_) (AllReadyH.cons rfl (fun Kq hKq => ?_) AllReadyH.nil))
    · skip
      go_simp
      have hb := nbelow X0 (.cells #[.slice aI nI cI] 64)
      have r1 : (X0.alloc (.cells #[.slice aI nI cI] 64)).cell? ⟨X0.heap.size, 0, none⟩ = some (.slice aI nI cI) := by simp
      replace cS := ((hb).cell (lt_of_cell cS)).trans cS
      replace sI := sI.below hb
      replace HB := HB.trans (hb.mono HB.size)
      refine hKq.out _ _ cS (fun _ => ?_)
      clear hKq Kq hb
      generalize X0.alloc (.cells #[.slice aI nI cI] 64) = Y1 at *
      generalize X0.heap.size = a1 at *
      refine wpAnyH_ready (rs := [2, 6]) (by kernel_rfl) (by simp) ?_
      refine (AllReadyH.cons rfl (fun Kq hKq => ?_) (AllReadyH.cons rfl (fun Kq hKq => ?_) AllReadyH.nil))
      · skip
        go_simp
        refine (nput_any 6 _ 1 1 _ _ Y1 (Parts.one r1 sI) (by decide)).mono ?_
        rintro e Y2 ⟨x1, m1, c1, rfl, o1, hb⟩
        replace o1 := o1.toSrc p6
        replace cS := ((hb).cell (lt_of_cell cS)).trans cS
        replace sI := sI.below hb
        replace r1 := ((hb).cell (lt_of_cell r1)).trans r1
        replace HB := HB.trans (hb.mono HB.size)
        refine hKq.out _ _ cS (fun _ => ?_)
        clear hKq Kq hb
        refine wpAnyH_ready (rs := [6]) (by kernel_rfl) (by simp) ?_
        refine (AllReadyH.cons rfl (fun Kq hKq => ?_) AllReadyH.nil)
        · skip
          obtain ⟨c6, Y3, hcv, s6, hb⟩ := conv_any s hs Y2
          go_simp
          replace cS := ((hb).cell (lt_of_cell cS)).trans cS
          replace sI := sI.below hb
          replace r1 := ((hb).cell (lt_of_cell r1)).trans r1
          replace o1 := o1.below hb
          replace HB := HB.trans (hb.mono HB.size)
          refine hKq.out _ _ cS (fun _ => ?_)
          clear hKq Kq hb hcv
          generalize Y2.heap.size = a6 at *
          refine wpAnyH_ready (rs := [7]) (by kernel_rfl) (by simp) ?_
          refine (AllReadyH.cons rfl (fun Kq hKq => ?_) AllReadyH.nil)
          · skip
            go_simp
            have hb := nbelow Y3 (.cells #[.slice (some ⟨a6, 0, none⟩) s.size c6] 64)
            have r7 : (Y3.alloc (.cells #[.slice (some ⟨a6, 0, none⟩) s.size c6] 64)).cell? ⟨Y3.heap.size, 0, none⟩ = some (.slice (some ⟨a6, 0, none⟩) s.size c6) := by simp
            replace cS := ((hb).cell (lt_of_cell cS)).trans cS
            replace sI := sI.below hb
            replace r1 := ((hb).cell (lt_of_cell r1)).trans r1
            replace o1 := o1.below hb
            replace s6 := s6.below hb
            replace HB := HB.trans (hb.mono HB.size)
            refine hKq.out _ _ cS (fun _ => ?_)
            clear hKq Kq hb
            generalize Y3.alloc (.cells #[.slice (some ⟨a6, 0, none⟩) s.size c6] 64) = Y4 at *
            generalize Y3.heap.size = a7 at *
            exact REST.out Y4 a1 x1 m1 c1 a6 c6 a7 ⟨HB, cS, r7, s6, o1⟩
      · skip
        obtain ⟨c6, Y5, hcv, s6, hb⟩ := conv_any s hs Y1
        go_simp
        replace cS := ((hb).cell (lt_of_cell cS)).trans cS
        replace sI := sI.below hb
        replace r1 := ((hb).cell (lt_of_cell r1)).trans r1
        replace HB := HB.trans (hb.mono HB.size)
        refine hKq.out _ _ cS (fun _ => ?_)
        clear hKq Kq hb hcv
        generalize Y1.heap.size = a6 at *
        refine wpAnyH_ready (rs := [2, 7]) (by kernel_rfl) (by simp) ?_
        refine (AllReadyH.cons rfl (fun Kq hKq => ?_) (AllReadyH.cons rfl (fun Kq hKq => ?_) AllReadyH.nil))
        · skip
          go_simp
          refine (nput_any 6 _ 1 1 _ _ Y5 (Parts.one r1 sI) (by decide)).mono ?_
          rintro e Y6 ⟨x1, m1, c1, rfl, o1, hb⟩
          replace o1 := o1.toSrc p6
          replace cS := ((hb).cell (lt_of_cell cS)).trans cS
          replace sI := sI.below hb
          replace r1 := ((hb).cell (lt_of_cell r1)).trans r1
          replace s6 := s6.below hb
          replace HB := HB.trans (hb.mono HB.size)
          refine hKq.out _ _ cS (fun _ => ?_)
          clear hKq Kq hb
          refine wpAnyH_ready (rs := [7]) (by kernel_rfl) (by simp) ?_
          refine (AllReadyH.cons rfl (fun Kq hKq => ?_) AllReadyH.nil)
          · skip
            go_simp
            have hb := nbelow Y6 (.cells #[.slice (some ⟨a6, 0, none⟩) s.size c6] 64)
            have r7 : (Y6.alloc (.cells #[.slice (some ⟨a6, 0, none⟩) s.size c6] 64)).cell? ⟨Y6.heap.size, 0, none⟩ = some (.slice (some ⟨a6, 0, none⟩) s.size c6) := by simp
            replace cS := ((hb).cell (lt_of_cell cS)).trans cS
            replace sI := sI.below hb
            replace r1 := ((hb).cell (lt_of_cell r1)).trans r1
            replace s6 := s6.below hb
            replace o1 := o1.below hb
            replace HB := HB.trans (hb.mono HB.size)
            refine hKq.out _ _ cS (fun _ => ?_)
            clear hKq Kq hb
            generalize Y6.alloc (.cells #[.slice (some ⟨a6, 0, none⟩) s.size c6] 64) = Y7 at *
            generalize Y6.heap.size = a7 at *
            exact REST.out Y7 a1 x1 m1 c1 a6 c6 a7 ⟨HB, cS, r7, s6, o1⟩
        · skip
          go_simp
          have hb := nbelow Y5 (.cells #[.slice (some ⟨a6, 0, none⟩) s.size c6] 64)
          have r7 : (Y5.alloc (.cells #[.slice (some ⟨a6, 0, none⟩) s.size c6] 64)).cell? ⟨Y5.heap.size, 0, none⟩ = some (.slice (some ⟨a6, 0, none⟩) s.size c6) := by simp
          replace cS := ((hb).cell (lt_of_cell cS)).trans cS
          replace sI := sI.below hb
          replace r1 := ((hb).cell (lt_of_cell r1)).trans r1
          replace s6 := s6.below hb
          replace HB := HB.trans (hb.mono HB.size)
          refine hKq.out _ _ cS (fun _ => ?_)
          clear hKq Kq hb
          generalize Y5.alloc (.cells #[.slice (some ⟨a6, 0, none⟩) s.size c6] 64) = Y8 at *
          generalize Y5.heap.size = a7 at *
          refine wpAnyH_ready (rs := [2]) (by kernel_rfl) (by simp) ?_
          refine (AllReadyH.cons rfl (fun Kq hKq => ?_) AllReadyH.nil)
          · skip
            go_simp
            refine (nput_any 6 _ 1 1 _ _ Y8 (Parts.one r1 sI) (by decide)).mono ?_
            rintro e Y9 ⟨x1, m1, c1, rfl, o1, hb⟩
            replace o1 := o1.toSrc p6
            replace cS := ((hb).cell (lt_of_cell cS)).trans cS
            replace sI := sI.below hb
            replace r1 := ((hb).cell (lt_of_cell r1)).trans r1
            replace s6 := s6.below hb
            replace r7 := ((hb).cell (lt_of_cell r7)).trans r7
            replace HB := HB.trans (hb.mono HB.size)
            refine hKq.out _ _ cS (fun _ => ?_)
            clear hKq Kq hb
            exact REST.out Y9 a1 x1 m1 c1 a6 c6 a7 ⟨HB, cS, r7, s6, o1⟩
    · skip
      obtain ⟨c6, Y10, hcv, s6, hb⟩ := conv_any s hs X0
      go_simp
      replace cS := ((hb).cell (lt_of_cell cS)).trans cS
      replace sI := sI.below hb
      replace HB := HB.trans (hb.mono HB.size)
      refine hKq.out _ _ cS (fun _ => ?_)
      clear hKq Kq hb hcv
      generalize X0.heap.size = a6 at *
      refine wpAnyH_ready (rs := [1, 7]) (by kernel_rfl) (by simp) ?_
      refine (AllReadyH.cons rfl (fun Kq hKq => ?_) (AllReadyH.cons rfl (fun Kq hKq => ?_) AllReadyH.nil))
      · skip
        go_simp
        have hb := nbelow Y10 (.cells #[.slice aI nI cI] 64)
        have r1 : (Y10.alloc (.cells #[.slice aI nI cI] 64)).cell? ⟨Y10.heap.size, 0, none⟩ = some (.slice aI nI cI) := by simp
        replace cS := ((hb).cell (lt_of_cell cS)).trans cS
        replace sI := sI.below hb
        replace s6 := s6.below hb
        replace HB := HB.trans (hb.mono HB.size)
        refine hKq.out _ _ cS (fun _ => ?_)
        clear hKq Kq hb
        generalize Y10.alloc (.cells #[.slice aI nI cI] 64) = Y11 at *
        generalize Y10.heap.size = a1 at *
        refine wpAnyH_ready (rs := [2, 7]) (by kernel_rfl) (by simp) ?_
        refine (AllReadyH.cons rfl (fun Kq hKq => ?_) (AllReadyH.cons rfl (fun Kq hKq => ?_) AllReadyH.nil))
        · skip
          go_simp
          refine (nput_any 6 _ 1 1 _ _ Y11 (Parts.one r1 sI) (by decide)).mono ?_
          rintro e Y12 ⟨x1, m1, c1, rfl, o1, hb⟩
          replace o1 := o1.toSrc p6
          replace cS := ((hb).cell (lt_of_cell cS)).trans cS
          replace sI := sI.below hb
          replace s6 := s6.below hb
          replace r1 := ((hb).cell (lt_of_cell r1)).trans r1
          replace HB := HB.trans (hb.mono HB.size)
          refine hKq.out _ _ cS (fun _ => ?_)
          clear hKq Kq hb
          refine wpAnyH_ready (rs := [7]) (by kernel_rfl) (by simp) ?_
          refine (AllReadyH.cons rfl (fun Kq hKq => ?_) AllReadyH.nil)
          · skip
            go_simp
            have hb := nbelow Y12 (.cells #[.slice (some ⟨a6, 0, none⟩) s.size c6] 64)
            have r7 : (Y12.alloc (.cells #[.slice (some ⟨a6, 0, none⟩) s.size c6] 64)).cell? ⟨Y12.heap.size, 0, none⟩ = some (.slice (some ⟨a6, 0, none⟩) s.size c6) := by simp
            replace cS := ((hb).cell (lt_of_cell cS)).trans cS
            replace sI := sI.below hb
            replace s6 := s6.below hb
            replace r1 := ((hb).cell (lt_of_cell r1)).trans r1
            replace o1 := o1.below hb
            replace HB := HB.trans (hb.mono HB.size)
            refine hKq.out _ _ cS (fun _ => ?_)
            clear hKq Kq hb
            generalize Y12.alloc (.cells #[.slice (some ⟨a6, 0, none⟩) s.size c6] 64) = Y13 at *
            generalize Y12.heap.size = a7 at *
            exact REST.out Y13 a1 x1 m1 c1 a6 c6 a7 ⟨HB, cS, r7, s6, o1⟩
        · skip
          go_simp
          have hb := nbelow Y11 (.cells #[.slice (some ⟨a6, 0, none⟩) s.size c6] 64)
          have r7 : (Y11.alloc (.cells #[.slice (some ⟨a6, 0, none⟩) s.size c6] 64)).cell? ⟨Y11.heap.size, 0, none⟩ = some (.slice (some ⟨a6, 0, none⟩) s.size c6) := by simp
          replace cS := ((hb).cell (lt_of_cell cS)).trans cS
          replace sI := sI.below hb
          replace s6 := s6.below hb
          replace r1 := ((hb).cell (lt_of_cell r1)).trans r1
          replace HB := HB.trans (hb.mono HB.size)
          refine hKq.out _ _ cS (fun _ => ?_)
          clear hKq Kq hb
          generalize Y11.alloc (.cells #[.slice (some ⟨a6, 0, none⟩) s.size c6] 64) = Y14 at *
          generalize Y11.heap.size = a7 at *
          refine wpAnyH_ready (rs := [2]) (by kernel_rfl) (by simp) ?_
          refine (AllReadyH.cons rfl (fun Kq hKq => ?_) AllReadyH.nil)
          · skip
            go_simp
            refine (nput_any 6 _ 1 1 _ _ Y14 (Parts.one r1 sI) (by decide)).mono ?_
            rintro e Y15 ⟨x1, m1, c1, rfl, o1, hb⟩
            replace o1 := o1.toSrc p6
            replace cS := ((hb).cell (lt_of_cell cS)).trans cS
            replace sI := sI.below hb
            replace s6 := s6.below hb
            replace r1 := ((hb).cell (lt_of_cell r1)).trans r1
            replace r7 := ((hb).cell (lt_of_cell r7)).trans r7
            replace HB := HB.trans (hb.mono HB.size)
            refine hKq.out _ _ cS (fun _ => ?_)
            clear hKq Kq hb
            exact REST.out Y15 a1 x1 m1 c1 a6 c6 a7 ⟨HB, cS, r7, s6, o1⟩
      · skip
        go_simp
        have hb := nbelow Y10 (.cells #[.slice (some ⟨a6, 0, none⟩) s.size c6] 64)
        have r7 : (Y10.alloc (.cells #[.slice (some ⟨a6, 0, none⟩) s.size c6] 64)).cell? ⟨Y10.heap.size, 0, none⟩ = some (.slice (some ⟨a6, 0, none⟩) s.size c6) := by simp
        replace cS := ((hb).cell (lt_of_cell cS)).trans cS
        replace sI := sI.below hb
        replace s6 := s6.below hb
        replace HB := HB.trans (hb.mono HB.size)
        refine hKq.out _ _ cS (fun _ => ?_)
        clear hKq Kq hb
        generalize Y10.alloc (.cells #[.slice (some ⟨a6, 0, none⟩) s.size c6] 64) = Y16 at *
        generalize Y10.heap.size = a7 at *
        refine wpAnyH_ready (rs := [1]) (by kernel_rfl) (by simp) ?_
        refine (AllReadyH.cons rfl (fun Kq hKq => ?_) AllReadyH.nil)
        · skip
          go_simp
          have hb := nbelow Y16 (.cells #[.slice aI nI cI] 64)
          have r1 : (Y16.alloc (.cells #[.slice aI nI cI] 64)).cell? ⟨Y16.heap.size, 0, none⟩ = some (.slice aI nI cI) := by simp
          replace cS := ((hb).cell (lt_of_cell cS)).trans cS
          replace sI := sI.below hb
          replace s6 := s6.below hb
          replace r7 := ((hb).cell (lt_of_cell r7)).trans r7
          replace HB := HB.trans (hb.mono HB.size)
          refine hKq.out _ _ cS (fun _ => ?_)
          clear hKq Kq hb
          generalize Y16.alloc (.cells #[.slice aI nI cI] 64) = Y17 at *
          generalize Y16.heap.size = a1 at *
          refine wpAnyH_ready (rs := [2]) (by kernel_rfl) (by simp) ?_
          refine (AllReadyH.cons rfl (fun Kq hKq => ?_) AllReadyH.nil)
          · skip
            go_simp
            refine (nput_any 6 _ 1 1 _ _ Y17 (Parts.one r1 sI) (by decide)).mono ?_
            rintro e Y18 ⟨x1, m1, c1, rfl, o1, hb⟩
            replace o1 := o1.toSrc p6
            replace cS := ((hb).cell (lt_of_cell cS)).trans cS
            replace sI := sI.below hb
            replace s6 := s6.below hb
            replace r7 := ((hb).cell (lt_of_cell r7)).trans r7
            replace r1 := ((hb).cell (lt_of_cell r1)).trans r1
            replace HB := HB.trans (hb.mono HB.size)
            refine hKq.out _ _ cS (fun _ => ?_)
            clear hKq Kq hb
            exact REST.out Y18 a1 x1 m1 c1 a6 c6 a7 ⟨HB, cS, r7, s6, o1⟩
  · rintro W a1 x1 m1 c1 a6 c6 a7 ⟨HB, cS, r7, s6, o1⟩
    refine wpAnyH_ready (rs := [8]) (by kernel_rfl) (by simp) ?_
    refine AllReadyH.cons rfl (fun Kq hKq => ?_) AllReadyH.nil
    go_simp
    refine (nput_any kd _ 1 1 _ _ W (Parts.one r7 s6) (by decide)).mono ?_
    rintro e W1 ⟨x2, m2, c2, rfl, o2, hb⟩
    replace o2 := o2.toSrc (putS_byte _ _ (fun l hl => by simp at hl; subst hl; exact nums_byte _))
    replace o1 := o1.below hb
    replace cS := (hb.cell (lt_of_cell cS)).trans cS
    replace HB := HB.trans (hb.mono HB.size)
    refine hKq.out _ _ cS (fun _ => ?_)
    clear hKq Kq hb r7 s6
    generalize hP6 : (putS [] 6 [ID]).1 = P6 at o1
    generalize hP8 : (putS [] kd [nums s.data.toList]).1 = P8 at o2
    refine wpAnyH_ready (rs := [9]) (by kernel_rfl) (by simp) ?_
    refine AllReadyH.cons rfl (fun Kq hKq => ?_) AllReadyH.nil
    go_simp
    have hb := nbelow W1 (.cells #[.slice x1 m1 c1, .slice x2 m2 c2] 64)
    have r9 : (W1.alloc (.cells #[.slice x1 m1 c1, .slice x2 m2 c2] 64)).cell? ⟨W1.heap.size, 0, none⟩ = some (.slice x1 m1 c1) := by simp
    have r9b : (W1.alloc (.cells #[.slice x1 m1 c1, .slice x2 m2 c2] 64)).cell? ⟨W1.heap.size, 1, none⟩ = some (.slice x2 m2 c2) := by simp
    replace o1 := o1.below hb
    replace o2 := o2.below hb
    replace cS := (hb.cell (lt_of_cell cS)).trans cS
    replace HB := HB.trans (hb.mono HB.size)
    refine hKq.out _ _ cS (fun _ => ?_)
    clear hKq Kq hb
    generalize W1.alloc (.cells #[.slice x1 m1 c1, .slice x2 m2 c2] 64) = W2 at *
    generalize W1.heap.size = a9 at *
    refine wpAnyH_ready (rs := [10]) (by kernel_rfl) (by simp) ?_
    refine AllReadyH.cons rfl (fun Kq hKq => ?_) AllReadyH.nil
    go_simp
    refine (nput_any 48 _ 2 2 _ _ W2 (Parts.two r9 r9b o1 o2) (by decide)).mono ?_
    rintro e W3 ⟨x3, m3, c3, rfl, o3, hb⟩
    have p8 : Byt P8 := by rw [← hP8]; exact putS_byte _ _ (fun l hl => by simp at hl; subst hl; exact nums_byte _)
    rw [hP6] at p6
    replace o3 := o3.toSrc (putS_byte _ _ (fun l hl => by simp at hl; rcases hl with rfl | rfl; exact p6; exact p8))
    replace cS := (hb.cell (lt_of_cell cS)).trans cS
    replace HB := HB.trans (hb.mono HB.size)
    refine hKq.out _ _ cS (fun _ => ?_)
    clear hKq Kq hb r9 r9b o1 o2
    generalize hP10 : (putS [] 48 [P6, P8]).1 = P10 at o3
    refine wpAnyH_ready (rs := [11]) (by kernel_rfl) (by simp) ?_
    refine AllReadyH.cons rfl (fun Kq hKq => ?_) AllReadyH.nil
    go_simp
    have hb := nbelow W3 (.cells #[.slice x3 m3 c3] 64)
    have r11 : (W3.alloc (.cells #[.slice x3 m3 c3] 64)).cell? ⟨W3.heap.size, 0, none⟩ = some (.slice x3 m3 c3) := by simp
    replace o3 := o3.below hb
    replace cS := (hb.cell (lt_of_cell cS)).trans cS
    replace HB := HB.trans (hb.mono HB.size)
    refine hKq.out _ _ cS (fun _ => ?_)
    clear hKq Kq hb
    generalize W3.alloc (.cells #[.slice x3 m3 c3] 64) = W4 at *
    generalize W3.heap.size = a11 at *
    refine wpAnyH_ready (rs := [12]) (by kernel_rfl) (by simp) ?_
    refine AllReadyH.cons rfl (fun Kq hKq => ?_) AllReadyH.nil
    go_simp
    refine (nput_any 49 _ 1 1 _ _ W4 (Parts.one r11 o3) (by decide)).mono ?_
    rintro e W5 ⟨x4, m4, c4, rfl, o4, hb⟩
    replace o4 := o4.rebase HB.size
    replace cS := (hb.cell (lt_of_cell cS)).trans cS
    replace HB := HB.trans (hb.mono HB.size)
    refine hKq.out _ _ cS (fun _ => ?_)
    clear hKq Kq hb
    refine wpAnyH_ready (rs := [13]) (by kernel_rfl) (by simp) ?_
    refine AllReadyH.cons rfl (fun Kq hKq => ?_) AllReadyH.nil
    go_simp
    refine hKq.out _ _ cS (fun _ => ?_)
    clear hKq Kq
    refine wpAnyH_done (by kernel_rfl) ?_ _
    go_wp2
    go_ret
    refine ⟨x4, m4, c4, rfl, ?_, HB⟩
    unfold encA putB
    rw [HID.out, hkd, hP6, hP8, hP10]
    exact o4

end Go.Proofs.YtklchpdpooikdaaGreatDoor
