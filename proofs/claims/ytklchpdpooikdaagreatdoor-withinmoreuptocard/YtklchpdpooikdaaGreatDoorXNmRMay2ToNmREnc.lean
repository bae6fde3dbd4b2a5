/-
  The document's May.
  The document's Encode of a name.
-/
import Derived.Test.YtklchpdpooikdaaGreatDoorXNmRMay
import Derived.Lib.ConvBytes
import Derived.Deep.RegionHeld3
import Derived.Test.YtklchpdpooikdaaGreatDoorXNmInsToNmRPut
import Derived.Test.YtklchpdpooikdaaGreatDoorXTxW1ToTxF1
namespace Go.Proofs.YtklchpdpooikdaaGreatDoor
open Go.RowKit Go.IntWalk Go.Shelf

set_option maxRecDepth 100000 in
set_option maxHeartbeats 2000000 in
theorem rmayN_any (ao : Option Addr) (n cap : Nat) (xs : List (Int × ByteArray)) (w : World) (hA : Ats w ao n cap xs) (hz : ∀ x ∈ xs, x.2.size ≤ 140737488355328) :
    Calls Tryz.prog 91 #[.slice ao n cap] w fun e w' => e = .returned (.bool (nameL xs)) ∧ Below w.heap.size w w' := by
  have HL := hide hA.hl
  have hc := hA.hcap
  have hm := hA.hmax
  unfold maxLen at hm
  have HA := hide hA
  have HZ := hide hz
  have hR : Hid (nameL xs = (decide (n ≤ 16) && xs.all (fun x => attrL x.1 x.2.data.toList))) := by unfold Hid nameL; rw [HL.out]
  clear hA hz
  generalize nameL xs = R at hR ⊢
  go_enter Tryz.func91, Tryz.ntmps91
  go_wp2
  go_loopw [3] (fun v wr => ∃ k : Nat, v = .int .i64 k ∧ k ≤ n ∧ Hid (xs.all (fun x => attrL x.1 x.2.data.toList) = (xs.drop k).all (fun x => attrL x.1 x.2.data.toList)) ∧ Hid (Below w.heap.size w wr)) (fun v _ => n - (intOf v).toNat)
  case atStart => exact ⟨0, rfl, Nat.zero_le _, rfl, Below.refl _ _⟩
  case round =>
    obtain ⟨k, rfl, hk, hE, hQ⟩ := hrel
    by_cases hlt : k < n
    · have ltI : (k : Int) < (n : Int) := by omega
      obtain ⟨b, off, rfl, hcl⟩ := (HA.out.below hQ.out).hrd (by omega)
      obtain ⟨c0, c1⟩ := hcl k hlt
      have hst := hide (all_dropN (fun x => attrL x.1 x.2.data.toList) xs k (by rw [HL.out]; exact hlt))
      have hsz := HZ.out _ (getD_mem (xs := xs) (i := k) (by rw [HL.out]; exact hlt))
      generalize xs.getD k (0, ByteArray.empty) = x at c0 c1 hst hsz
      obtain ⟨t, s⟩ := x
      simp only [] at c0 c1 hsz
      clear hcl
      have hB := hide (fun W => mayAttr_any t s hsz W)
      replace hst : Hid ((xs.drop k).all (fun x => attrL x.1 x.2.data.toList) = (attrL t s.data.toList && (xs.drop (k + 1)).all (fun x => attrL x.1 x.2.data.toList))) := hst.out
      generalize attrL t s.data.toList = q at hB hst
      cases q with
      | true =>
        have hE2 : Hid (xs.all (fun x => attrL x.1 x.2.data.toList) = (xs.drop (k + 1)).all (fun x => attrL x.1 x.2.data.toList)) := by unfold Hid; rw [hE.out, hst.out, Bool.true_and]
        go_wp2_with fail
        refine (hB.out _).mono ?_
        rintro e w1 ⟨rfl, L1⟩
        go_wp2
        go_roundw
        case rel => exact ⟨k + 1, by simp, by omega, hE2, hQ.out.trans (L1.mono hQ.out.size)⟩
        case measure => simp [intOf]; omega
      | false =>
        have hF : Hid (R = false) := by unfold Hid; rw [hR.out, hE.out, hst.out]; simp
        go_wp2_with fail
        refine (hB.out _).mono ?_
        rintro e w1 ⟨rfl, L1⟩
        go_wp2
        go_ret
        exact ⟨by rw [hF.out]; rfl, hQ.out.trans (L1.mono hQ.out.size)⟩
    · have ltI : ¬ (k : Int) < (n : Int) := by omega
      have hall : xs.all (fun x => attrL x.1 x.2.data.toList) = true := by rw [hE.out, List.drop_eq_nil_of_le (by rw [HL.out]; omega)]; rfl
      have hF : Hid (R = decide (n ≤ 16)) := by unfold Hid; rw [hR.out, hall, Bool.and_true]
      by_cases h16 : n ≤ 16
      · have i16 : (n : Int) ≤ 16 := by omega
        go_wp2
        go_ret
        exact ⟨by rw [hF.out, decide_eq_true h16]; rfl, hQ.out⟩
      · have i16 : ¬ (n : Int) ≤ 16 := by omega
        go_wp2
        go_ret
        exact ⟨by rw [hF.out, decide_eq_false h16]; rfl, hQ.out⟩

end Go.Proofs.YtklchpdpooikdaaGreatDoor

namespace Go.Proofs.YtklchpdpooikdaaGreatDoor
open Go.RowKit Go.IntWalk Go.Shelf
attribute [local go_sem ↓] appOf_of

structure Mid2 (w : World) (s : ByteArray) (b o : Nat) (P6 : List Int) (W : World) (x1 k1 c1 a8 c8 : Nat) : Prop where
  bel : Below w.heap.size w W
  cS : W.cell? ⟨b, o, none⟩ = some (.string s)
  o1 : OwnB W w.heap.size (.slice (some ⟨x1, 0, none⟩) k1 c1) P6
  s8 : Src W (some ⟨a8, 0, none⟩) s.size c8 (nums s.data.toList)
theorem mk_mid2 {w : World} {s : ByteArray} {b o : Nat} {P6 : List Int} {P : World → Nat → Nat → Nat → Nat → Nat → Prop} {G : Prop} (h : Hid (∀ W x1 k1 c1 a8 c8, Mid2 w s b o P6 W x1 k1 c1 a8 c8 → P W x1 k1 c1 a8 c8) → G) (k : ∀ W x1 k1 c1 a8 c8, Mid2 w s b o P6 W x1 k1 c1 a8 c8 → P W x1 k1 c1 a8 c8) : G := h k
theorem grown_cell_old {w w' : World} {row : Option Nat} {p : Addr} {v : Value} (h : w.grownBy w' row) (hc : w.cell? p = some v) (hr : some p.block ≠ row) : w'.cell? p = w.cell? p :=
  World.cell?_of_block (w := w) (h.block p.block (lt_of_cell hc) hr)
theorem kind_tag {t : Int} {l : List UInt8} (h : attrL t l = true) : isTagB (kindL l).1 = true := by
  have hv : valL l = true := by
    cases hq : valL l with
    | true => rfl
    | false => rw [val_not t hq] at h; cases h
  unfold valL at hv
  rw [Bool.and_eq_true, Bool.and_eq_true] at hv
  unfold kindL
  split
  · rfl
  · rw [if_pos hv.2.2]; rfl

theorem encA_short (t : Int) (s : ByteArray) (hs : s.size ≤ 64) : (encA t s).length ≤ 200 := by
  unfold encA
  have h0 := putB_len 49 [putB 48 [putB 6 [idB t], putB (kindL s.data.toList).1 [nums s.data.toList]]]
  have h1 := putB_len 48 [putB 6 [idB t], putB (kindL s.data.toList).1 [nums s.data.toList]]
  have h2 := putB_len 6 [idB t]
  have h3 := putB_len (kindL s.data.toList).1 [nums s.data.toList]
  have h4 := idB_len t
  have h5 : (nums s.data.toList).length = s.size := by unfold nums; rw [List.length_map, size_len]
  simp only [List.flatten_cons, List.flatten_nil, List.append_nil, List.length_append] at h0 h1 h2 h3 ⊢
  omega
theorem attr_short {t : Int} {s : ByteArray} (h : attrL t s.data.toList = true) : s.size ≤ 64 := by
  have hv : valL s.data.toList = true := by
    cases hq : valL s.data.toList with
    | true => rfl
    | false => rw [val_not t hq] at h; cases h
  unfold valL at hv
  rw [Bool.and_eq_true, Bool.and_eq_true] at hv
  have := of_decide_eq_true hv.2.1
  rw [size_len] at this
  exact this
theorem small_len {xs : List (Int × ByteArray)} (h : ∀ x ∈ xs, attrL x.1 x.2.data.toList = true) (hl : xs.length ≤ 16) : (encR xs).length ≤ 16777215 := by
  have key : ∀ k, k ≤ xs.length → (encR (xs.take k)).length ≤ k * 200 := by
    intro k
    induction k with
    | zero => intro _; simp [encR]
    | succ k ih =>
      intro hk
      rw [encR_snoc xs k (by omega), List.length_append]
      have h1 := encA_short (xs.getD k (0, ByteArray.empty)).1 (xs.getD k (0, ByteArray.empty)).2 (attr_short (h _ (getD_mem (by omega))))
      have h2 := ih (by omega)
      omega
  have := key xs.length (Nat.le_refl _)
  rw [List.take_length] at this
  omega

set_option maxRecDepth 100000 in
set_option maxHeartbeats 4000000 in
theorem rencodeN_any (ao : Option Addr) (n cap : Nat) (xs : List (Int × ByteArray)) (w : World) (hA : Ats w ao n cap xs) (hz : ∀ x ∈ xs, x.2.size ≤ 1048576) :
    Calls Tryz.prog 59 #[.slice ao n cap] w fun e w' => ∃ a m c, e = .returned (.tuple #[.slice a m c, .int .i64 (encNE xs)]) ∧ OwnB w' w.heap.size (.slice a m c) (encNC xs) ∧ Below w.heap.size w w' := by
  have hM := hide (rmayN_any ao n cap xs w hA (fun x hx => by have := hz x hx; omega))
  have HL := hide hA.hl
  have hc := hA.hcap
  have hm := hA.hmax
  unfold maxLen at hm
  have HA := hide hA
  have HZ := hide hz
  clear hA hz
  cases hN : nameL xs with
  | false =>
    have e1 : encNC xs = [] := by unfold encNC; rw [hN]; rfl
    have e2 : encNE xs = 120 := by unfold encNE; rw [hN]; rfl
    rw [e1, e2]
    rw [hN] at hM
    clear hN e1 e2
    go_enter Tryz.func59, Tryz.ntmps59
    go_wp2_with fail
    refine hM.out.mono ?_
    rintro e w1 ⟨rfl, B1⟩
    go_wp2
    refine bodyPost_ret (v := .tuple #[.slice none 0 0, .int .i64 120]) (by simp [results, Tryz.results59, go_sem]) rfl ⟨none, 0, 0, rfl, OwnB.nil _ _, B1⟩
  | true =>
    have e1 : encNC xs = putB 48 [encR xs] := by unfold encNC; rw [hN]; rfl
    have e2 : encNE xs = 0 := by unfold encNE; rw [hN]; rfl
    have h16 : n ≤ 16 := by
      unfold nameL at hN
      rw [Bool.and_eq_true] at hN
      have := of_decide_eq_true hN.1
      rw [HL.out] at this
      exact this
    have HAT : Hid (∀ x ∈ xs, attrL x.1 x.2.data.toList = true) := by
      unfold nameL at hN
      rw [Bool.and_eq_true] at hN
      exact List.all_eq_true.1 hN.2
    have HRL : Hid ((encR xs).length ≤ 16777215) := small_len HAT.out (by rw [HL.out]; exact h16)
    rw [e1, e2]
    rw [hN] at hM
    clear hN e1 e2
    go_enter Tryz.func59, Tryz.ntmps59
    go_wp2_with fail
    refine hM.out.mono ?_
    rintro e w1 ⟨rfl, B1⟩
    have HB := hide B1
    clear B1 hM
    go_wp2
    go_loopw [4, 5] (fun cv v wr => ∃ (aC : Option Addr) (mC cC k : Nat), cv = .slice aC mC cC ∧ v = .int .i64 k ∧ k ≤ n ∧ Hid (OwnB wr w.heap.size (.slice aC mC cC) (encR (xs.take k)) ∧ Below w.heap.size w wr)) (fun _ v _ => n - (intOf v).toNat)
    case atStart => exact ⟨none, 0, 0, 0, rfl, rfl, Nat.zero_le _, OwnB.nil _ _, HB.out⟩
    case round =>
      obtain ⟨aC, mC, cC, k, rfl, rfl, hk, HQ⟩ := hrel
      by_cases hlt : k < n
      · have ltI : (k : Int) < (n : Int) := by omega
        obtain ⟨b, off, rfl, hcl⟩ := (HA.out.below HQ.out.2).hrd (by omega)
        obtain ⟨c0, c1⟩ := hcl k hlt
        have hsn := hide (encR_snoc xs k (by rw [HL.out]; exact hlt))
        have hmem := getD_mem (xs := xs) (i := k) (by rw [HL.out]; exact hlt)
        have hsz := HZ.out _ hmem
        have hat := HAT.out _ hmem
        have hln := hide (encR_len xs k (by rw [HL.out]; exact hk) HZ.out)
        generalize xs.getD k (0, ByteArray.empty) = x at c0 c1 hsn hsz hat
        obtain ⟨t, s⟩ := x
        simp only [] at c0 c1 hsz hat
        clear hcl hmem
        have hty := attr_type hat
        have hKT0 := kind_tag hat
        replace hsn : Hid (encR (xs.take (k + 1)) = encR (xs.take k) ++ encA t s) := hsn.out
        have hK := hide (fun W => refKind_any s (by omega) W)
        have hNL : Hid ((nums s.data.toList).length = s.size) := by unfold Hid nums; rw [List.length_map, size_len]
        obtain ⟨ID, hID⟩ : ∃ x, idB t = x := ⟨_, rfl⟩
        obtain ⟨er, hER⟩ : ∃ x, encE [2, 5, 4, t] = x := ⟨_, rfl⟩
        have hI : Hid (∀ W : World, Calls Tryz.prog 92 #[.slice (some ⟨W.heap.size, 0, none⟩) 4 4] (W.alloc (.cells #[.int .i64 2, .int .i64 5, .int .i64 4, .int .i64 t] 3)) fun e w' => ∃ ao' nI c', e = .returned (.tuple #[.slice ao' nI c', .int .i64 er]) ∧ OwnB w' (W.heap.size + 1) (.slice ao' nI c') ID ∧ Below (W.heap.size + 1) (W.alloc (.cells #[.int .i64 2, .int .i64 5, .int .i64 4, .int .i64 t] 3)) w' ∧ nI ≤ 16777215) := fun W => by
          refine (refEncode_any (some ⟨W.heap.size, 0, none⟩) 4 4 [2, 5, 4, t] (W.alloc (.cells #[.int .i64 2, .int .i64 5, .int .i64 4, .int .i64 t] 3)) (id_src W t hty)).mono ?_
          rintro e w' ⟨ao, c, h1, h2, h3⟩
          rw [World.size_alloc] at h2 h3
          refine ⟨ao, (encC [2, 5, 4, t]).length, c, ?_, ?_, h3, ?_⟩
          · rw [← hER]; exact h1
          · rw [← hID]; exact h2
          · have := idB_len t; unfold idB at this; omega
        have hIB : Byt ID := by rw [← hID]; exact encC_byte _
        have hIDL : ID.length ≤ 20 := by rw [← hID]; exact idB_len t
        have hEA : Hid (encA t s = putB 49 [putB 48 [putB 6 [ID] ++ putB (kindL s.data.toList).1 [nums s.data.toList]]]) := by unfold Hid encA; rw [hID, putB_two]
        have hne := hide (encA_ne t s hsz)
        have hAl := hide (encA_len t s hsz)
        clear hID hER hat
        go_wp2_with fail
        refine (hI.out wr).mono ?_
        rintro e V1 ⟨aI, nI, cI, rfl, oI, B1, hIL0⟩
        have BV : Below wr.heap.size wr V1 := (nbelow wr (.cells #[.int .i64 2, .int .i64 5, .int .i64 4, .int .i64 t] 3)).trans (B1.mono (Nat.le_succ _))
        have cS1 := (BV.cell (p := ⟨b, off + k * 2 + 1, none⟩) (lt_of_cell c1)).trans c1
        have hIL := hide hIL0
        have hbk : Hid (b < wr.heap.size) := lt_of_cell c1
        clear hI B1 c0 hIL0
        go_wp2_with fail
        refine (hK.out _).mono ?_
        rintro e V2 ⟨rfl, B2⟩
        have sI : Src V2 aI nI cI ID := (oI.belowA B2).toSrc hIB
        replace cS1 := (B2.cell (p := ⟨b, off + k * 2 + 1, none⟩) (lt_of_cell cS1)).trans cS1
        replace BV := BV.trans (B2.mono BV.size)
        clear B2 oI hK c1
        have hKT := hide hKT0
        clear hKT0
        generalize (kindL s.data.toList).1 = kd at hKT hEA ⊢
        go_wp2_with fail
        refine wp_region_held_drew (S := fun W => W.cell? ⟨b, off + k * 2 + 1, none⟩ = some (.string s)) (by kernel_rfl) cS1 (fun cS => ?_)
        replace sI : Src V2.drew aI nI cI ID := sI.heap rfl
        replace BV := BV.drew
        clear cS1
        generalize V2.drew = X0 at *
        refine wpAnyH_take (i := 0) (v := ?_) rfl (by kernel_rfl) (by kernel_rfl) (by kernel_rfl) (fun _ _ _ h => h) (Or.inl ⟨by rfl, ?_⟩) (by assumption) ?_
        rotate_left
        · intro wq hSq
          go_simp
          try with_reducible rfl
        simp only [List.getElem_toArray, List.getElem_cons_zero, Act.put, List.setIfInBounds_toArray, List.set_cons_zero, List.set_cons_succ]
        refine wpAnyH_take (i := 2) (v := ?_) rfl (by kernel_rfl) (by kernel_rfl) (by kernel_rfl) (fun _ _ _ h => h) (Or.inl ⟨by rfl, ?_⟩) (by assumption) ?_
        rotate_left
        · intro wq hSq
          go_simp
          try with_reducible rfl
        simp only [List.getElem_toArray, List.getElem_cons_succ, List.getElem_cons_zero, Act.put, List.setIfInBounds_toArray, List.set_cons_zero, List.set_cons_succ]
        refine wpAnyH_take (i := 3) (v := ?_) rfl (by kernel_rfl) (by kernel_rfl) (by kernel_rfl) (fun _ _ _ h => h) (Or.inl ⟨by rfl, ?_⟩) (by assumption) ?_
        rotate_left
        · intro wq hSq
          go_simp
          try with_reducible rfl
        simp only [List.getElem_toArray, List.getElem_cons_succ, List.getElem_cons_zero, Act.put, List.setIfInBounds_toArray, List.set_cons_zero, List.set_cons_succ]
        refine wpAnyH_take (i := 4) (v := ?_) rfl (by kernel_rfl) (by kernel_rfl) (by kernel_rfl) (fun _ _ _ h => h) (Or.inl ⟨by rfl, ?_⟩) (by assumption) ?_
        rotate_left
        · intro wq hSq
          go_simp
          try with_reducible rfl
        simp only [List.getElem_toArray, List.getElem_cons_succ, List.getElem_cons_zero, Act.put, List.setIfInBounds_toArray, List.set_cons_zero, List.set_cons_succ]
        refine wpAnyH_take (i := 5) (v := ?_) rfl (by kernel_rfl) (by kernel_rfl) (by kernel_rfl) (fun _ _ _ h => h) (Or.inl ⟨by rfl, ?_⟩) (by assumption) ?_
        rotate_left
        · intro wq hSq
          go_simp
          try with_reducible rfl
        simp only [List.getElem_toArray, List.getElem_cons_succ, List.getElem_cons_zero, Act.put, List.setIfInBounds_toArray, List.set_cons_zero, List.set_cons_succ]
        refine wpAnyH_take (i := 6) (v := ?_) rfl (by kernel_rfl) (by kernel_rfl) (by kernel_rfl) (fun _ _ _ h => h) (Or.inl ⟨by rfl, ?_⟩) (by assumption) ?_
        rotate_left
        · intro wq hSq
          go_simp
          try with_reducible rfl
        simp only [List.getElem_toArray, List.getElem_cons_succ, List.getElem_cons_zero, Act.put, List.setIfInBounds_toArray, List.set_cons_zero, List.set_cons_succ]
        refine wpAnyH_take (i := 7) (v := ?_) rfl (by kernel_rfl) (by kernel_rfl) (by kernel_rfl) (fun _ _ _ h => h) (Or.inl ⟨by rfl, ?_⟩) (by assumption) ?_
        rotate_left
        · intro wq hSq
          go_simp
          try with_reducible rfl
        simp only [List.getElem_toArray, List.getElem_cons_succ, List.getElem_cons_zero, Act.put, List.setIfInBounds_toArray, List.set_cons_zero, List.set_cons_succ]
        refine' mk_mid2 (w := wr) (s := s) (b := b) (o := off + k * 2 + 1) (P6 := putB 6 [ID]) (fun REST => ?_) ?_
        rotate_left
        · skip
          refine wpAnyH_ready (rs := [1, 8]) (by kernel_rfl) (by simp) ?_
          refine AllReadyH.cons rfl (fun Kq hKq => ?_) (AllReadyH.cons rfl (fun Kq hKq => ?_) AllReadyH.nil)
          · skip
            go_simp
            refine (rnput_any 6 (by decide) aI nI cI ID X0 sI hIL.out).mono ?_
            rintro e Y1 ⟨x1, k1, c1', rfl, o1, hb⟩
            replace o1 := o1.rebase BV.size
            replace BV := BV.trans (hb.mono BV.size)
            replace cS := (hb.cell (lt_of_cell cS)).trans cS
            refine hKq.out _ _ cS (fun _ => ?_)
            clear hKq Kq
            clear hb
            refine wpAnyH_ready (rs := [8]) (by kernel_rfl) (by simp) ?_
            refine AllReadyH.cons rfl (fun Kq hKq => ?_) AllReadyH.nil
            obtain ⟨c8, Y2, hcv, s8, hb⟩ := conv_any s hsz Y1
            go_simp
            replace BV := BV.trans (hb.mono BV.size)
            replace cS := (hb.cell (lt_of_cell cS)).trans cS
            replace o1 := o1.belowA hb
            refine hKq.out _ _ cS (fun _ => ?_)
            clear hKq Kq
            clear hb hcv
            generalize Y1.heap.size = a8 at *
            exact REST.out Y2 x1 k1 c1' a8 c8 ⟨BV, cS, o1, s8⟩
          · skip
            obtain ⟨c8, Y1, hcv, s8, hb⟩ := conv_any s hsz X0
            go_simp
            replace BV := BV.trans (hb.mono BV.size)
            replace cS := (hb.cell (lt_of_cell cS)).trans cS
            replace sI := sI.below hb
            refine hKq.out _ _ cS (fun _ => ?_)
            clear hKq Kq
            clear hb hcv
            generalize X0.heap.size = a8 at *
            refine wpAnyH_ready (rs := [1]) (by kernel_rfl) (by simp) ?_
            refine AllReadyH.cons rfl (fun Kq hKq => ?_) AllReadyH.nil
            go_simp
            refine (rnput_any 6 (by decide) aI nI cI ID Y1 sI hIL.out).mono ?_
            rintro e Y2 ⟨x1, k1, c1', rfl, o1, hb⟩
            replace o1 := o1.rebase BV.size
            replace BV := BV.trans (hb.mono BV.size)
            replace cS := (hb.cell (lt_of_cell cS)).trans cS
            replace s8 := s8.below hb
            refine hKq.out _ _ cS (fun _ => ?_)
            clear hKq Kq
            clear hb
            exact REST.out Y2 x1 k1 c1' a8 c8 ⟨BV, cS, o1, s8⟩
        · rintro W x1 k1 c1' a8 c8 ⟨BV, cS, o1, s8⟩
          refine wpAnyH_ready (rs := [9]) (by kernel_rfl) (by simp) ?_
          refine AllReadyH.cons rfl (fun Kq hKq => ?_) AllReadyH.nil
          go_simp
          refine (rnput_any kd hKT.out _ _ _ _ W s8 (by omega)).mono ?_
          rintro e W1 ⟨x2, k2, c2, rfl, o2, hb⟩
          replace o1 := o1.belowA hb
          replace cS := (hb.cell (lt_of_cell cS)).trans cS
          replace BV := BV.trans (hb.mono BV.size)
          have s2 := o2.toSrc (putB_byte _ _ (fun l hl => by simp at hl; subst hl; exact nums_byte _))
          refine hKq.out _ _ cS (fun _ => ?_)
          clear hKq Kq
          clear hb o2 s8
          obtain ⟨g3, c3, W2, hrun, o3, hg3, _, _, _, hgr⟩ := run_appN W1 64 wr.heap.size _ _ o1 _ _ _ _ s2 ((putB 6 [ID]).length + (putB kd [nums s.data.toList]).length) (by rw [List.length_append]) (.inl (by simp)) (by have := putB_len 6 [ID]; have := putB_len kd [nums s.data.toList]; have := hIL.out; have := hNL.out; simp only [List.flatten_cons, List.flatten_nil, List.append_nil] at *; omega) BV.size
          rw [appOf_of] at hrun
          refine wpAnyH_ready (rs := [10]) (by kernel_rfl) (by simp) ?_
          refine AllReadyH.cons rfl (fun Kq hKq => ?_) AllReadyH.nil
          go_simp
          have hx1 := (o1.lt x1 rfl).1
          replace cS := (grown_cell_old hgr cS (by intro h; simp [Value.ownBlock] at h; have := hbk.out; omega)).trans cS
          replace BV := BV.grown hgr BV.size (fun j hj => by cases hj; exact hx1)
          refine hKq.out _ _ cS (fun _ => ?_)
          clear hKq Kq
          clear hrun hgr o1 s2 hx1
          refine wpAnyH_ready (rs := [11]) (by kernel_rfl) (by simp) ?_
          refine AllReadyH.cons rfl (fun Kq hKq => ?_) AllReadyH.nil
          go_simp
          refine hKq.out _ _ cS (fun _ => ?_)
          clear hKq Kq
          refine wpAnyH_done (by kernel_rfl) ?_ _
          have BW := HQ.out.2.trans (BV.mono HQ.out.2.size)
          have O2 := HQ.out.1.belowA BV
          have s3 := o3.toSrc (fun x hx => (List.mem_append.1 hx).elim (putB_byte _ _ (fun l hl => by simp at hl; subst hl; exact hIB) x) (putB_byte _ _ (fun l hl => by simp at hl; subst hl; exact nums_byte _) x))
          have hm3 : (putB 6 [ID]).length + (putB kd [nums s.data.toList]).length ≤ 1048700 := by
            have q1 := putB_len 6 [ID]
            have q2 := putB_len kd [nums s.data.toList]
            have q3 := hNL.out
            simp only [List.flatten_cons, List.flatten_nil, List.append_nil] at q1 q2
            omega
          have hPl : (putB 6 [ID] ++ putB kd [nums s.data.toList]).length = (putB 6 [ID]).length + (putB kd [nums s.data.toList]).length := List.length_append
          have hPb : Byt (putB 6 [ID] ++ putB kd [nums s.data.toList]) := s3.hbyt
          clear o3 BV cS hbk sI
          generalize putB 6 [ID] ++ putB kd [nums s.data.toList] = PP at *
          generalize (putB 6 [ID]).length + (putB kd [nums s.data.toList]).length = M at *
          have e4 := hide (rnput_any 48 (by decide) _ _ _ _ _ s3 (by omega))
          clear s3
          go_wp2_with fail
          refine e4.out.mono ?_
          rintro e W3 ⟨x4, k4, c4, rfl, o4, L3⟩
          have hk4 := o4.eqlen
          have q4 := putB_len 48 [PP]
          simp only [List.flatten_cons, List.flatten_nil, List.append_nil] at q4
          have s4 := o4.toSrc (putB_byte _ _ (fun l hl => by simp at hl; subst hl; exact hPb))
          replace O2 := O2.belowA L3
          replace BW := BW.trans (L3.mono BW.size)
          have e5 := hide (rnput_any 49 (by decide) _ _ _ _ _ s4 (by omega))
          rw [← hEA.out] at e5
          clear o4 L3 s4 e4 q4 hk4
          have BW' := hide BW
          have O2' := hide O2
          clear BW O2
          go_wp2_with fail
          refine e5.out.mono ?_
          rintro e W4 ⟨x5, k5, c5, rfl, o5, L4⟩
          have s5 := hide (o5.toSrc (encA_byte t s))
          have O3 := hide (O2'.out.belowA L4)
          have BX := hide (BW'.out.trans (L4.mono BW'.out.size))
          clear o5 L4 e5 O2' BW'
          generalize encA t s = E at *
          go_wp2_with (at_builtin; refine wpList_appN _ rfl (.tmp 50) (.tmp 53) rfl w.heap.size (.slice aC mC cC) (encR (xs.take k)) rfl O3.out (some ⟨x5, 0, none⟩) k5 c5 E rfl s5.out ((encR (xs.take k)).length + E.length) (by rw [List.length_append]) (.inr hne.out) (by have := hln.out; have := hAl.out; omega) BX.out.size ?_; intro g6 c6 w6 ho6 hb6 hl6 hc6 hm6 hg6)
          go_roundw
          case rel => exact ⟨some ⟨g6, 0, none⟩, (encR (xs.take k)).length + E.length, c6, k + 1, rfl, by simp, by omega, by rw [hsn.out]; exact ho6, BX.out.grown hg6 BX.out.size (fun j hj => (O3.out.lt j hj).1)⟩
          case measure => simp [intOf]; omega
      · have ltI : ¬ (k : Int) < (n : Int) := by omega
        obtain rfl : k = n := by omega
        have hx : xs.take k = xs := List.take_of_length_le (by rw [HL.out]; omega)
        rw [hx] at HQ
        have S0 := HQ.out.1.toSrc (encR_byte xs)
        have hP := hide (rnput_any 48 (by decide) _ _ _ _ _ S0 (by have := S0.hlen; have := HRL.out; omega))
        clear S0
        go_wp2_with fail
        refine hP.out.mono ?_
        rintro e w2 ⟨x2, m2, c2, rfl, o2, L2⟩
        go_wp2
        refine bodyPost_ret (v := .tuple #[.slice (some ⟨x2, 0, none⟩) m2 c2, .int .i64 0]) (by simp [results, Tryz.results59, go_sem]) rfl ⟨some ⟨x2, 0, none⟩, m2, c2, rfl, o2.rebase HQ.out.2.size, HQ.out.2.trans (L2.mono HQ.out.2.size)⟩

end Go.Proofs.YtklchpdpooikdaaGreatDoor
