/-
  The statement SlipLaid: its walk.
-/
import Derived.Test.YtogemhoempkjoabDoorSlLaidOver
import Derived.Deep.DeepCutAuto
import Derived.WalkSpells
namespace Go.Proofs.YtogemhoempkjoabDoor
open Go.RowKit Go.IntWalk

/-- A row of one piece. -/
def Good (W : World) (x v : Value) : Prop := ∃ g, x = .slice (some ⟨g, 0, none⟩) 1 1 ∧ W.cell? ⟨g, 0, none⟩ = some v
theorem Good.alloc {W : World} {x v : Value} (h : Good W x v) (o : Obj) : Good (W.alloc o) x v := by
  obtain ⟨g, h1, h2⟩ := h
  exact ⟨g, h1, (World.cell?_alloc_lt _ _ _ (lt_of_cell h2)).trans h2⟩
theorem Good.new (W : World) (v : Value) : Good (W.alloc (.cells #[v] 22)) (.slice (some ⟨W.heap.size, 0, none⟩) 1 1) v := ⟨_, rfl, by simp⟩
theorem below_alL {U W : World} (h : Below U.heap.size U W) (ob : Obj) : Below U.heap.size U (W.alloc ob) := h.alloc h.size ob
theorem mkR0 {P : World → Prop} {G : Prop} (Q : World → Prop) (h : Hid (∀ W, Q W → P W) → G) (k : ∀ W, Q W → P W) : G := h k
theorem mkR1 {P : World → Value → Prop} {G : Prop} (Q : World → Value → Prop) (h : Hid (∀ W x, Q W x → P W x) → G) (k : ∀ W x, Q W x → P W x) : G := h k
theorem mkR2 {P : World → Value → Value → Prop} {G : Prop} (Q : World → Value → Value → Prop) (h : Hid (∀ W x y, Q W x y → P W x y) → G) (k : ∀ W x y, Q W x y → P W x y) : G := h k
theorem mkR3 {P : World → Value → Value → Value → Prop} {G : Prop} (Q : World → Value → Value → Value → Prop) (h : Hid (∀ W x y z, Q W x y z → P W x y z) → G) (k : ∀ W x y z, Q W x y z → P W x y z) : G := h k
theorem mkR4 {P : World → Value → Value → Value → Value → Prop} {G : Prop} (Q : World → Value → Value → Value → Value → Prop) (h : Hid (∀ W x y z v, Q W x y z v → P W x y z v) → G) (k : ∀ W x y z v, Q W x y z v → P W x y z v) : G := h k
theorem over3_bd : ∀ (xs ys zs : List Int), (∀ x ∈ xs, 0 ≤ x ∧ x < 256) → (∀ x ∈ ys, 0 ≤ x ∧ x < 256) → (∀ x ∈ zs, 0 ≤ x ∧ x < 256) → ∀ x ∈ over3 xs ys zs, 0 ≤ x ∧ x < 256
  | x :: xs, y :: ys, z :: zs, hx, hy, hz => by
    intro v hv
    simp only [over3, List.mem_cons] at hv
    rcases hv with rfl | hv
    · exact (ofInt_xor8 _ z (ofInt_xor8 x y (hx x (by simp)) (hy y (by simp))).2 (hz z (by simp))).2
    · exact over3_bd xs ys zs (fun a ha => hx a (by simp [ha])) (fun a ha => hy a (by simp [ha])) (fun a ha => hz a (by simp [ha])) v hv
  | [], _, _, _, _, _ => by simp [over3]
  | _ :: _, [], _, _, _, _ => by simp [over3]
  | _ :: _, _ :: _, [], _, _, _ => by simp [over3]

theorem grown_drewL {w w' : World} {r : Option Nat} (h : w.grownBy w' r) : w.grownBy w'.drew r := ⟨h.os, h.tape, h.output, h.size, h.block⟩

theorem over3_step (xs ys zs : List Int) (i : Nat) (hi : i < xs.length) (h1 : xs.length = ys.length) (h2 : ys.length = zs.length) :
    ((over3 xs ys zs).take i ++ xs.drop i).set i (bits .xor .u8 (bits .xor .u8 (xs.getD i 0) (ys.getD i 0)) (zs.getD i 0)) = (over3 xs ys zs).take (i + 1) ++ xs.drop (i + 1) ∧ ((over3 xs ys zs).take i ++ xs.drop i).getD i 0 = xs.getD i 0 := by
  have hl := over3_len xs ys zs h1 h2
  have ha := over3_at xs ys zs i hi h1 h2
  have ht : ((over3 xs ys zs).take i).length = i := by rw [List.length_take]; omega
  constructor
  · rw [List.set_append_right _ _ (by omega), ht, Nat.sub_self, List.take_add_one, List.getElem?_eq_getElem (show i < (over3 xs ys zs).length by omega), List.drop_eq_getElem_cons (show i < xs.length by omega)]
    rw [List.getD, List.getElem?_eq_getElem (show i < (over3 xs ys zs).length by omega)] at ha
    simp only [Option.getD_some] at ha
    rw [ha, List.set_cons_zero]
    simp
  · rw [List.getD, List.getElem?_append_right (by omega), ht, Nat.sub_self]
    simp [List.getD, List.getElem?_drop]

set_option maxRecDepth 100000 in
set_option maxHeartbeats 60000000 in
theorem laid_walk (a1 : Option Addr) (n1 c1 : Nat) (xs : List Int) (a2 : Option Addr) (n2 c2 : Nat) (ys : List Int) (a3 : Option Addr) (n3 c3 : Nat) (zs : List Int) (w : World) (hT : Tab w) (hs1 : Src w a1 n1 c1 xs) (hs2 : Src w a2 n2 c2 ys) (hs3 : Src w a3 n3 c3 zs) (hn1 : n1 ≤ 140737488351232) (hn2 : n2 ≤ 140737488351232) (_hn3 : n3 ≤ 140737488351232) :
    Calls Tryd.prog 3 #[.slice a1 n1 c1, .slice a2 n2 c2, .slice a3 n3 c3] w fun e w' => e = .returned (.bool true) ∧ Below w.heap.size w w' := by
  obtain ⟨N, hN⟩ : ∃ N : Nat, min n1 (min n2 n3) = N := ⟨_, rfl⟩
  have hN1 : N ≤ n1 := by omega
  have hN2 : N ≤ n2 := by omega
  have hN3 : N ≤ n3 := by omega
  obtain ⟨M, hM⟩ : ∃ M : Nat, min n2 n3 = M := ⟨_, rfl⟩
  have hMI : min (n2 : Int) (n3 : Int) = (M : Int) := by omega
  have hNI : min (n1 : Int) (M : Int) = (N : Int) := by omega
  have q1 := hs1.hcap
  have q2 := hs2.hcap
  have q3 := hs3.hcap
  have HA := hide (hs1.head N hN1)
  have HB := hide (hs2.head N hN2)
  have HC := hide (hs3.head N hN3)
  have HT := hide hT
  have l1 := HA.out.hlen
  have l2 := HB.out.hlen
  have l3 := HC.out.hlen
  have y1 := HA.out.hbyt
  have y2 := HB.out.hbyt
  have y3 := HC.out.hbyt
  have e1 : ∀ W : World, (Instr.slice 22 (.slice a1 n1 c1) none (some (.int .i64 (N : Int))) none).run Tryd.prog W = .ok (.slice a1 N c1) W := fun W => by rw [slice_hi W a1 n1 c1 _ N rfl (by omega), cutA_zero]
  have e2 : ∀ W : World, (Instr.slice 22 (.slice a2 n2 c2) none (some (.int .i64 (N : Int))) none).run Tryd.prog W = .ok (.slice a2 N c2) W := fun W => by rw [slice_hi W a2 n2 c2 _ N rfl (by omega), cutA_zero]
  have e3 : ∀ W : World, (Instr.slice 22 (.slice a3 n3 c3) none (some (.int .i64 (N : Int))) none).run Tryd.prog W = .ok (.slice a3 N c3) W := fun W => by rw [slice_hi W a3 n3 c3 _ N rfl (by omega), cutA_zero]
  generalize xs.take N = X at *
  generalize ys.take N = Y at *
  generalize zs.take N = Z at *
  clear hs1 hs2 hs3 hT hM hMI hNI
  have HL := hide (And.intro l1 (And.intro l2 l3))
  have HY := hide (And.intro y1 (And.intro y2 y3))
  clear l1 l2 l3 y1 y2 y3
  go_enter Tryd.func3, Tryd.ntmps3
  go_upto_region 1 with fail
  go_cut [7] (fun v wx => v = .int .i64 (N : Int) ∧ wx = w)
  case first =>
    go_wp2
    all_goals (
      go_meet
      exact ⟨by congr 1; omega, rfl⟩)
  case rest =>
    obtain ⟨rfl, rfl⟩ := hcut
    clear hN
    go_wp2_with (at_builtin; refine wpList_appN _ rfl (.tmp 18) (.tmp 21) rfl wc.heap.size (.slice (some ⟨wc.heap.size, 0, none⟩) 0 0) [] rfl (OwnB.litAt _ _ [] _ 0 rfl rfl rfl (Nat.le_refl _) (by decide)) a1 N c1 X rfl (HA.out.alloc _) N (by simpa using HL.out.1) (.inl (by simp)) (by omega) (by simp) ?_; intro g3 d3 w3 ho3 hb3 hl3 hc3 hm3 hg3; have HB3 : Hid (Below wc.heap.size wc w3) := ((Below.refl _ _).alloc (Nat.le_refl _) _).grown hg3 (by simp) (own_ge (Nat.le_refl _)); have HO3 := hide ho3; clear ho3 hg3)
    go_loopw [9] (fun i wr => ∃ t : Nat, t ≤ N ∧ i = .int .i64 t ∧ Hid (OwnB wr wc.heap.size (.slice (some ⟨g3, 0, none⟩) N d3) ((over3 X Y Z).take t ++ X.drop t)) ∧ Hid (w3.grownBy wr (some g3))) (fun i _ => N - (intOf i).toNat)
    case atStart => exact ⟨0, by omega, rfl, by unfold Hid; simpa using HO3.out, World.grownBy.refl _ _⟩
    case round =>
      obtain ⟨t, ht, rfl, HO, HG⟩ := hrel
      have HBr := hide ((HB.out.below HB3.out).grown HG.out fun b off he hne hb => by have := HB.out.blk b off he hne; simp at hb; omega)
      have HCr := hide ((HC.out.below HB3.out).grown HG.out fun b off he hne hb => by have := HC.out.blk b off he hne; simp at hb; omega)
      by_cases hlt : t < N
      · obtain ⟨l1, l2, l3⟩ := HL.out
        obtain ⟨f1, f2⟩ := over3_step X Y Z t (by omega) (by omega) (by omega)
        obtain ⟨b2, o2, rfl, hc2⟩ := HBr.out.hrd (by intro h; rw [h] at l2; simp at l2; omega)
        obtain ⟨b3, o3, rfl, hc3'⟩ := HCr.out.hrd (by intro h; rw [h] at l3; simp at l3; omega)
        have k2 := hc2 t (by omega)
        have k3 := hc3' t (by omega)
        have hb2 := HB.out.blk b2 o2 rfl (by intro h; rw [h] at l2; simp at l2; omega)
        have hb3' := HC.out.blk b3 o3 rfl (by intro h; rw [h] at l3; simp at l3; omega)
        have hcell := HO.out.cell t (by rw [← HO.out.eqlen]; exact hlt)
        rw [f2] at hcell
        have hfr := HO.out.frozen t
        have HST := hide (fun u => HO.out.stored t u)
        have hltI : (t : Int) < (N : Int) := by omega
        have ht2 : t < n2 := by omega
        have ht3 : t < n3 := by omega
        have ht2I : (t : Int) < (n2 : Int) := by omega
        have ht3I : (t : Int) < (n3 : Int) := by omega
        have ne2 : ¬ g3 = b2 := by omega
        have ne3 : ¬ g3 = b3 := by omega
        have ne2' : ¬ b2 = g3 := by omega
        have ne3' : ¬ b3 = g3 := by omega
        have HF1 := hide f1
        obtain ⟨x, hx⟩ : ∃ x, X.getD t 0 = x := ⟨_, rfl⟩
        obtain ⟨y, hy⟩ : ∃ y, Y.getD t 0 = y := ⟨_, rfl⟩
        obtain ⟨z, hz⟩ : ∃ z, Z.getD t 0 = z := ⟨_, rfl⟩
        rw [hx] at hcell
        rw [hy] at k2
        rw [hz] at k3
        rw [hx, hy, hz] at f1
        have HF := hide f1
        clear hc2 hc3' f1 f2 HF1 l1 l2 l3 hx hy hz
        go_wp2_with fail
        have h0 : wr.drew.cell? ⟨b2, o2 + t, none⟩ = some (.int .u8 y) ∧ wr.drew.cell? ⟨b3, o3 + t, none⟩ = some (.int .u8 z) := ⟨k2, k3⟩
        refine wp_region_held (S := fun W => W.cell? ⟨b2, o2 + t, none⟩ = some (.int .u8 y) ∧ W.cell? ⟨b3, o3 + t, none⟩ = some (.int .u8 z)) (by kernel_rfl) ?_
        refine wpAnyH_take (i := 0) (v := ?_) rfl (by kernel_rfl) (by kernel_rfl) (by kernel_rfl) (fun _ _ _ h => h) (Or.inl ⟨by rfl, ?_⟩) (by assumption) ?_
        rotate_left
        · intro wq hSq
          go_simp
          try with_reducible rfl
        simp only [List.getElem_toArray, List.getElem_cons_zero, Act.put, List.setIfInBounds_toArray, List.set_cons_zero, List.set_cons_succ]
        refine wpAnyH_take (i := 1) (v := ?_) rfl (by kernel_rfl) (by kernel_rfl) (by kernel_rfl) (fun _ _ _ h => h) (Or.inl ⟨by rfl, ?_⟩) (by assumption) ?_
        rotate_left
        · intro wq hSq
          obtain ⟨s1, s2⟩ := hSq
          go_simp
          try with_reducible rfl
        simp only [List.getElem_toArray, List.getElem_cons_succ, List.getElem_cons_zero, Act.put, List.setIfInBounds_toArray, List.set_cons_zero, List.set_cons_succ]
        refine wpAnyH_take (i := 2) (v := ?_) rfl (by kernel_rfl) (by kernel_rfl) (by kernel_rfl) (fun _ _ _ h => h) (Or.inl ⟨by rfl, ?_⟩) (by assumption) ?_
        rotate_left
        · intro wq hSq
          obtain ⟨s1, s2⟩ := hSq
          go_simp
          try with_reducible rfl
        simp only [List.getElem_toArray, List.getElem_cons_succ, List.getElem_cons_zero, Act.put, List.setIfInBounds_toArray, List.set_cons_zero, List.set_cons_succ]
        refine wpAnyH_take (i := 3) (v := ?_) rfl (by kernel_rfl) (by kernel_rfl) (by kernel_rfl) (fun _ _ _ h => h) (Or.inl ⟨by rfl, ?_⟩) (by assumption) ?_
        rotate_left
        · intro wq hSq
          obtain ⟨s1, s2⟩ := hSq
          go_simp
          try with_reducible rfl
        simp only [List.getElem_toArray, List.getElem_cons_succ, List.getElem_cons_zero, Act.put, List.setIfInBounds_toArray, List.set_cons_zero, List.set_cons_succ]
        refine wpAnyH_take (i := 4) (v := ?_) rfl (by kernel_rfl) (by kernel_rfl) (by kernel_rfl) (fun _ _ _ h => h) (Or.inl ⟨by rfl, ?_⟩) (by assumption) ?_
        rotate_left
        · intro wq hSq
          obtain ⟨s1, s2⟩ := hSq
          go_simp
          try with_reducible rfl
        simp only [List.getElem_toArray, List.getElem_cons_succ, List.getElem_cons_zero, Act.put, List.setIfInBounds_toArray, List.set_cons_zero, List.set_cons_succ]
        refine wpAnyH_take (i := 6) (v := ?_) rfl (by kernel_rfl) (by kernel_rfl) (by kernel_rfl) (fun _ _ _ h => h) (Or.inl ⟨by rfl, ?_⟩) (by assumption) ?_
        rotate_left
        · intro wq hSq
          obtain ⟨s1, s2⟩ := hSq
          go_simp
          try with_reducible rfl
        simp only [List.getElem_toArray, List.getElem_cons_succ, List.getElem_cons_zero, Act.put, List.setIfInBounds_toArray, List.set_cons_zero, List.set_cons_succ]
        refine wpAnyH_take (i := 7) (v := ?_) rfl (by kernel_rfl) (by kernel_rfl) (by kernel_rfl) (fun _ _ _ h => h) (Or.inl ⟨by rfl, ?_⟩) (by assumption) ?_
        rotate_left
        · intro wq hSq
          obtain ⟨s1, s2⟩ := hSq
          go_simp
          try with_reducible rfl
        simp only [List.getElem_toArray, List.getElem_cons_succ, List.getElem_cons_zero, Act.put, List.setIfInBounds_toArray, List.set_cons_zero, List.set_cons_succ]
        refine wpAnyH_take (i := 8) (v := ?_) rfl (by kernel_rfl) (by kernel_rfl) (by kernel_rfl) (fun _ _ _ h => h) (Or.inl ⟨by rfl, ?_⟩) (by assumption) ?_
        rotate_left
        · intro wq hSq
          obtain ⟨s1, s2⟩ := hSq
          go_simp
          try with_reducible rfl
        simp only [List.getElem_toArray, List.getElem_cons_succ, List.getElem_cons_zero, Act.put, List.setIfInBounds_toArray, List.set_cons_zero, List.set_cons_succ]
        refine wpAnyH_take (i := 9) (v := ?_) rfl (by kernel_rfl) (by kernel_rfl) (by kernel_rfl) (fun _ _ _ h => h) (Or.inl ⟨by rfl, ?_⟩) (by assumption) ?_
        rotate_left
        · intro wq hSq
          obtain ⟨s1, s2⟩ := hSq
          go_simp
          try with_reducible rfl
        simp only [List.getElem_toArray, List.getElem_cons_succ, List.getElem_cons_zero, Act.put, List.setIfInBounds_toArray, List.set_cons_zero, List.set_cons_succ]
        refine wpAnyH_take (i := 11) (v := ?_) rfl (by kernel_rfl) (by kernel_rfl) (by kernel_rfl) (fun _ _ _ h => h) (Or.inl ⟨by rfl, ?_⟩) (by assumption) ?_
        rotate_left
        · intro wq hSq
          obtain ⟨s1, s2⟩ := hSq
          go_simp
          try with_reducible rfl
        simp only [List.getElem_toArray, List.getElem_cons_succ, List.getElem_cons_zero, Act.put, List.setIfInBounds_toArray, List.set_cons_zero, List.set_cons_succ]
        refine wpAnyH_take (i := 12) (v := ?_) rfl (by kernel_rfl) (by kernel_rfl) (by kernel_rfl) (fun _ _ _ h => h) (Or.inl ⟨by rfl, ?_⟩) (by assumption) ?_
        rotate_left
        · intro wq hSq
          obtain ⟨s1, s2⟩ := hSq
          go_simp
          try with_reducible rfl
        simp only [List.getElem_toArray, List.getElem_cons_succ, List.getElem_cons_zero, Act.put, List.setIfInBounds_toArray, List.set_cons_zero, List.set_cons_succ]
        refine wpAnyH_take (i := 13) (v := ?_) rfl (by kernel_rfl) (by kernel_rfl) (by kernel_rfl) (fun _ _ _ h => h) (Or.inl ⟨by rfl, ?_⟩) (by assumption) ?_
        rotate_left
        · intro wq hSq
          obtain ⟨s1, s2⟩ := hSq
          go_simp
          try with_reducible rfl
        simp only [List.getElem_toArray, List.getElem_cons_succ, List.getElem_cons_zero, Act.put, List.setIfInBounds_toArray, List.set_cons_zero, List.set_cons_succ]
        refine wpAnyH_take (i := 14) (v := ?_) rfl (by kernel_rfl) (by kernel_rfl) (by kernel_rfl) (fun _ _ _ h => h) (Or.inl ⟨by rfl, ?_⟩) (by assumption) ?_
        rotate_left
        · intro wq hSq
          obtain ⟨s1, s2⟩ := hSq
          go_simp
          try with_reducible rfl
        simp only [List.getElem_toArray, List.getElem_cons_succ, List.getElem_cons_zero, Act.put, List.setIfInBounds_toArray, List.set_cons_zero, List.set_cons_succ]
        refine wpAnyH_ready (rs := [5]) (by kernel_rfl) (by simp) ?_
        refine AllReadyH.cons rfl (fun Kq hKq => ?_) AllReadyH.nil
        go_simp
        refine hKq.out _ _ h0 (fun hHeld => ?_)
        clear hKq Kq hHeld
        refine wpAnyH_take (i := 10) (v := ?_) rfl (by kernel_rfl) (by kernel_rfl) (by kernel_rfl) (fun _ _ _ h => h) (Or.inl ⟨by rfl, ?_⟩) (by assumption) ?_
        rotate_left
        · intro wq hSq
          obtain ⟨s1, s2⟩ := hSq
          go_simp
          try with_reducible rfl
        simp only [List.getElem_toArray, List.getElem_cons_succ, List.getElem_cons_zero, Act.put, List.setIfInBounds_toArray, List.set_cons_zero, List.set_cons_succ]
        refine wpAnyH_take (i := 15) (v := ?_) rfl (by kernel_rfl) (by kernel_rfl) (by kernel_rfl) (fun _ _ _ h => h) (Or.inl ⟨by rfl, ?_⟩) (by assumption) ?_
        rotate_left
        · intro wq hSq
          obtain ⟨s1, s2⟩ := hSq
          go_simp
          try with_reducible rfl
        simp only [List.getElem_toArray, List.getElem_cons_succ, List.getElem_cons_zero, Act.put, List.setIfInBounds_toArray, List.set_cons_zero, List.set_cons_succ]
        refine wpAnyH_take (i := 16) (v := ?_) rfl (by kernel_rfl) (by kernel_rfl) (by kernel_rfl) (fun _ _ _ h => h) (Or.inl ⟨by rfl, ?_⟩) (by assumption) ?_
        rotate_left
        · intro wq hSq
          obtain ⟨s1, s2⟩ := hSq
          go_simp
          try with_reducible rfl
        simp only [List.getElem_toArray, List.getElem_cons_succ, List.getElem_cons_zero, Act.put, List.setIfInBounds_toArray, List.set_cons_zero, List.set_cons_succ]
        refine wpAnyH_ready (rs := [17]) (by kernel_rfl) (by simp) ?_
        refine AllReadyH.cons rfl (fun Kq hKq => ?_) AllReadyH.nil
        go_simp
        refine hKq.out _ _ ⟨by simp [go_sem, k2], by simp [go_sem, k3]⟩ (fun hHeld => ?_)
        clear hKq Kq hHeld
        refine wpAnyH_done (by kernel_rfl) ?_ _
        go_wp2
        go_roundw
        case rel => exact ⟨t + 1, by omega, by go_num, by unfold Hid; rw [← HF.out]; exact (HST.out _).1.heap rfl, grown_drewL (grown_trans HG.out (HST.out _).2)⟩
        case measure => simp [intOf]; omega
      · obtain rfl : t = N := by omega
        obtain ⟨l1, l2, l3⟩ := HL.out
        obtain ⟨y1, y2, y3⟩ := HY.out
        have eR : (over3 X Y Z).take t ++ X.drop t = over3 X Y Z := by rw [List.drop_eq_nil_of_le (by omega), List.append_nil, List.take_of_length_le (by rw [over3_len X Y Z (by omega) (by omega)]; omega)]
        rw [eR] at HO
        have hsum := sum_over X Y Z (by omega) (by omega) y1 y2 y3
        have hRb := over3_bd X Y Z y1 y2 y3
        have HAr := hide ((HA.out.below HB3.out).grown HG.out fun b off he hne hb => by have := HA.out.blk b off he hne; simp at hb; omega)
        have HDr := hide (HO.out.toSrc hRb)
        have HTU := hide ((HT.out.belowA HB3.out).kept HG.out (some_ge (by have := HT.out.lt; omega)))
        have HBU : Hid (Below wc.heap.size wc wr) := HB3.out.grown HG.out HB3.out.size (some_ge hb3)
        clear eR l1 l2 l3 y1 y2 y3 hRb
        generalize over3 X Y Z = R at *
        go_wp2_with fail
        generalize wr = U at *
        have C1 : Hid (∀ W g, Below U.heap.size U W → W.cell? ⟨g, 0, none⟩ = some (.slice a1 t c1) → Calls Tryd.prog 4 #[.slice (some ⟨g, 0, none⟩) 1 1] W fun e w' => e = .returned (.int .u32 (sumS X)) ∧ w' = W) := fun W g hW hc => sumOne_any a1 t c1 g X W (HTU.out.below hW HTU.out.lt) (HAr.out.below hW) hc
        have C2 : Hid (∀ W g, Below U.heap.size U W → W.cell? ⟨g, 0, none⟩ = some (.slice a2 t c2) → Calls Tryd.prog 4 #[.slice (some ⟨g, 0, none⟩) 1 1] W fun e w' => e = .returned (.int .u32 (sumS Y)) ∧ w' = W) := fun W g hW hc => sumOne_any a2 t c2 g Y W (HTU.out.below hW HTU.out.lt) (HBr.out.below hW) hc
        have C3 : Hid (∀ W g, Below U.heap.size U W → W.cell? ⟨g, 0, none⟩ = some (.slice a3 t c3) → Calls Tryd.prog 4 #[.slice (some ⟨g, 0, none⟩) 1 1] W fun e w' => e = .returned (.int .u32 (sumS Z)) ∧ w' = W) := fun W g hW hc => sumOne_any a3 t c3 g Z W (HTU.out.below hW HTU.out.lt) (HCr.out.below hW) hc
        have C4 : Hid (∀ W g, Below U.heap.size U W → W.cell? ⟨g, 0, none⟩ = some (.slice (some ⟨g3, 0, none⟩) t d3) → Calls Tryd.prog 4 #[.slice (some ⟨g, 0, none⟩) 1 1] W fun e w' => e = .returned (.int .u32 (sumS R)) ∧ w' = W) := fun W g hW hc => sumOne_any (some ⟨g3, 0, none⟩) t d3 g R W (HTU.out.below hW HTU.out.lt) (HDr.out.below hW) hc
        have hW : Below U.heap.size U U.drew := (Below.refl _ _).drew
        clear HAr HBr HCr HDr HO HG HA HB HC HL HY HO3 HT HB3
        generalize sumS X = sX at *
        generalize sumS Y = sY at *
        generalize sumS Z = sZ at *
        generalize sumS R = sR at *
        refine wp_region_held (S := fun W => Below U.heap.size U W) (by kernel_rfl) ?_
        refine wpAnyH_take (i := 0) (v := ?_) rfl (by kernel_rfl) (by kernel_rfl) (by kernel_rfl) (fun _ _ _ h => h) (Or.inl ⟨by rfl, ?_⟩) (by assumption) ?_
        rotate_left
        · intro wq hSq
          go_simp
          try with_reducible rfl
        simp only [List.getElem_toArray, List.getElem_cons_zero, Act.put, List.setIfInBounds_toArray, List.set_cons_zero, List.set_cons_succ]
        refine wpAnyH_take (i := 1) (v := ?_) rfl (by kernel_rfl) (by kernel_rfl) (by kernel_rfl) (fun _ _ _ h => h) (Or.inl ⟨by rfl, ?_⟩) (by assumption) ?_
        rotate_left
        · intro wq hSq
          go_simp
          try with_reducible rfl
        simp only [List.getElem_toArray, List.getElem_cons_succ, List.getElem_cons_zero, Act.put, List.setIfInBounds_toArray, List.set_cons_zero, List.set_cons_succ]
        refine wpAnyH_take (i := 2) (v := ?_) rfl (by kernel_rfl) (by kernel_rfl) (by kernel_rfl) (fun _ _ _ h => h) (Or.inl ⟨by rfl, ?_⟩) (by assumption) ?_
        rotate_left
        · intro wq hSq
          go_simp
          try with_reducible rfl
        simp only [List.getElem_toArray, List.getElem_cons_succ, List.getElem_cons_zero, Act.put, List.setIfInBounds_toArray, List.set_cons_zero, List.set_cons_succ]
        refine wpAnyH_take (i := 5) (v := ?_) rfl (by kernel_rfl) (by kernel_rfl) (by kernel_rfl) (fun _ _ _ h => h) (Or.inl ⟨by rfl, ?_⟩) (by assumption) ?_
        rotate_left
        · intro wq hSq
          go_simp
          try with_reducible rfl
        simp only [List.getElem_toArray, List.getElem_cons_succ, List.getElem_cons_zero, Act.put, List.setIfInBounds_toArray, List.set_cons_zero, List.set_cons_succ]
        refine wpAnyH_take (i := 6) (v := ?_) rfl (by kernel_rfl) (by kernel_rfl) (by kernel_rfl) (fun _ _ _ h => h) (Or.inl ⟨by rfl, ?_⟩) (by assumption) ?_
        rotate_left
        · intro wq hSq
          go_simp
          try with_reducible rfl
        simp only [List.getElem_toArray, List.getElem_cons_succ, List.getElem_cons_zero, Act.put, List.setIfInBounds_toArray, List.set_cons_zero, List.set_cons_succ]
        refine wpAnyH_take (i := 7) (v := ?_) rfl (by kernel_rfl) (by kernel_rfl) (by kernel_rfl) (fun _ _ _ h => h) (Or.inl ⟨by rfl, ?_⟩) (by assumption) ?_
        rotate_left
        · intro wq hSq
          go_simp
          try with_reducible rfl
        simp only [List.getElem_toArray, List.getElem_cons_succ, List.getElem_cons_zero, Act.put, List.setIfInBounds_toArray, List.set_cons_zero, List.set_cons_succ]
        refine wpAnyH_take (i := 11) (v := ?_) rfl (by kernel_rfl) (by kernel_rfl) (by kernel_rfl) (fun _ _ _ h => h) (Or.inl ⟨by rfl, ?_⟩) (by assumption) ?_
        rotate_left
        · intro wq hSq
          go_simp
          try with_reducible rfl
        simp only [List.getElem_toArray, List.getElem_cons_succ, List.getElem_cons_zero, Act.put, List.setIfInBounds_toArray, List.set_cons_zero, List.set_cons_succ]
        refine wpAnyH_take (i := 12) (v := ?_) rfl (by kernel_rfl) (by kernel_rfl) (by kernel_rfl) (fun _ _ _ h => h) (Or.inl ⟨by rfl, ?_⟩) (by assumption) ?_
        rotate_left
        · intro wq hSq
          go_simp
          try with_reducible rfl
        simp only [List.getElem_toArray, List.getElem_cons_succ, List.getElem_cons_zero, Act.put, List.setIfInBounds_toArray, List.set_cons_zero, List.set_cons_succ]
        refine wpAnyH_take (i := 13) (v := ?_) rfl (by kernel_rfl) (by kernel_rfl) (by kernel_rfl) (fun _ _ _ h => h) (Or.inl ⟨by rfl, ?_⟩) (by assumption) ?_
        rotate_left
        · intro wq hSq
          go_simp
          try with_reducible rfl
        simp only [List.getElem_toArray, List.getElem_cons_succ, List.getElem_cons_zero, Act.put, List.setIfInBounds_toArray, List.set_cons_zero, List.set_cons_succ]
        refine wpAnyH_take (i := 17) (v := ?_) rfl (by kernel_rfl) (by kernel_rfl) (by kernel_rfl) (fun _ _ _ h => h) (Or.inl ⟨by rfl, ?_⟩) (by assumption) ?_
        rotate_left
        · intro wq hSq
          go_simp
          try with_reducible rfl
        simp only [List.getElem_toArray, List.getElem_cons_succ, List.getElem_cons_zero, Act.put, List.setIfInBounds_toArray, List.set_cons_zero, List.set_cons_succ]
        change wpAnyH _ _ _ _ _ _ _ _ (World.drew _)
        obtain ⟨W, hWd⟩ : ∃ W, W = U.drew := ⟨_, rfl⟩
        rw [← hWd] at hW ⊢
        clear hWd
        refine' mkR4 (fun W x1 x2 x3 x4 => Below U.heap.size U W) (fun R30 => ?_) ?_
        rotate_left
        refine' mkR4 (fun W x1 x2 x3 x4 => Below U.heap.size U W ∧ Good W x4 (.slice (some ⟨g3, 0, none⟩) t d3)) (fun R29 => ?_) ?_
        rotate_left
        refine' mkR3 (fun W x1 x2 x3 => Below U.heap.size U W) (fun R28 => ?_) ?_
        rotate_left
        refine' mkR4 (fun W x1 x2 x3 x4 => Below U.heap.size U W ∧ Good W x3 (.slice a3 t c3) ∧ Good W x4 (.slice (some ⟨g3, 0, none⟩) t d3)) (fun R27 => ?_) ?_
        rotate_left
        refine' mkR3 (fun W x1 x2 x4 => Below U.heap.size U W ∧ Good W x4 (.slice (some ⟨g3, 0, none⟩) t d3)) (fun R26 => ?_) ?_
        rotate_left
        refine' mkR3 (fun W x1 x2 x3 => Below U.heap.size U W ∧ Good W x3 (.slice a3 t c3)) (fun R25 => ?_) ?_
        rotate_left
        refine' mkR4 (fun W x1 x2 x3 x4 => Below U.heap.size U W ∧ Good W x2 (.slice a2 t c2) ∧ Good W x3 (.slice a3 t c3) ∧ Good W x4 (.slice (some ⟨g3, 0, none⟩) t d3)) (fun R24 => ?_) ?_
        rotate_left
        refine' mkR2 (fun W x1 x2 => Below U.heap.size U W) (fun R23 => ?_) ?_
        rotate_left
        refine' mkR3 (fun W x1 x3 x4 => Below U.heap.size U W ∧ Good W x3 (.slice a3 t c3) ∧ Good W x4 (.slice (some ⟨g3, 0, none⟩) t d3)) (fun R22 => ?_) ?_
        rotate_left
        refine' mkR3 (fun W x1 x2 x4 => Below U.heap.size U W ∧ Good W x2 (.slice a2 t c2) ∧ Good W x4 (.slice (some ⟨g3, 0, none⟩) t d3)) (fun R21 => ?_) ?_
        rotate_left
        refine' mkR3 (fun W x1 x2 x3 => Below U.heap.size U W ∧ Good W x2 (.slice a2 t c2) ∧ Good W x3 (.slice a3 t c3)) (fun R20 => ?_) ?_
        rotate_left
        refine' mkR4 (fun W x1 x2 x3 x4 => Below U.heap.size U W ∧ Good W x1 (.slice a1 t c1) ∧ Good W x2 (.slice a2 t c2) ∧ Good W x3 (.slice a3 t c3) ∧ Good W x4 (.slice (some ⟨g3, 0, none⟩) t d3)) (fun R19 => ?_) ?_
        rotate_left
        refine' mkR2 (fun W x1 x4 => Below U.heap.size U W ∧ Good W x4 (.slice (some ⟨g3, 0, none⟩) t d3)) (fun R18 => ?_) ?_
        rotate_left
        refine' mkR2 (fun W x1 x3 => Below U.heap.size U W ∧ Good W x3 (.slice a3 t c3)) (fun R17 => ?_) ?_
        rotate_left
        refine' mkR2 (fun W x1 x2 => Below U.heap.size U W ∧ Good W x2 (.slice a2 t c2)) (fun R16 => ?_) ?_
        rotate_left
        refine' mkR3 (fun W x2 x3 x4 => Below U.heap.size U W ∧ Good W x2 (.slice a2 t c2) ∧ Good W x3 (.slice a3 t c3) ∧ Good W x4 (.slice (some ⟨g3, 0, none⟩) t d3)) (fun R15 => ?_) ?_
        rotate_left
        refine' mkR3 (fun W x1 x3 x4 => Below U.heap.size U W ∧ Good W x1 (.slice a1 t c1) ∧ Good W x3 (.slice a3 t c3) ∧ Good W x4 (.slice (some ⟨g3, 0, none⟩) t d3)) (fun R14 => ?_) ?_
        rotate_left
        refine' mkR3 (fun W x1 x2 x4 => Below U.heap.size U W ∧ Good W x1 (.slice a1 t c1) ∧ Good W x2 (.slice a2 t c2) ∧ Good W x4 (.slice (some ⟨g3, 0, none⟩) t d3)) (fun R13 => ?_) ?_
        rotate_left
        refine' mkR3 (fun W x1 x2 x3 => Below U.heap.size U W ∧ Good W x1 (.slice a1 t c1) ∧ Good W x2 (.slice a2 t c2) ∧ Good W x3 (.slice a3 t c3)) (fun R12 => ?_) ?_
        rotate_left
        refine' mkR1 (fun W x1 => Below U.heap.size U W) (fun R11 => ?_) ?_
        rotate_left
        refine' mkR2 (fun W x3 x4 => Below U.heap.size U W ∧ Good W x3 (.slice a3 t c3) ∧ Good W x4 (.slice (some ⟨g3, 0, none⟩) t d3)) (fun R10 => ?_) ?_
        rotate_left
        refine' mkR2 (fun W x2 x4 => Below U.heap.size U W ∧ Good W x2 (.slice a2 t c2) ∧ Good W x4 (.slice (some ⟨g3, 0, none⟩) t d3)) (fun R9 => ?_) ?_
        rotate_left
        refine' mkR2 (fun W x2 x3 => Below U.heap.size U W ∧ Good W x2 (.slice a2 t c2) ∧ Good W x3 (.slice a3 t c3)) (fun R8 => ?_) ?_
        rotate_left
        refine' mkR2 (fun W x1 x4 => Below U.heap.size U W ∧ Good W x1 (.slice a1 t c1) ∧ Good W x4 (.slice (some ⟨g3, 0, none⟩) t d3)) (fun R7 => ?_) ?_
        rotate_left
        refine' mkR2 (fun W x1 x3 => Below U.heap.size U W ∧ Good W x1 (.slice a1 t c1) ∧ Good W x3 (.slice a3 t c3)) (fun R6 => ?_) ?_
        rotate_left
        refine' mkR2 (fun W x1 x2 => Below U.heap.size U W ∧ Good W x1 (.slice a1 t c1) ∧ Good W x2 (.slice a2 t c2)) (fun R5 => ?_) ?_
        rotate_left
        refine' mkR1 (fun W x4 => Below U.heap.size U W ∧ Good W x4 (.slice (some ⟨g3, 0, none⟩) t d3)) (fun R4 => ?_) ?_
        rotate_left
        refine' mkR1 (fun W x3 => Below U.heap.size U W ∧ Good W x3 (.slice a3 t c3)) (fun R3 => ?_) ?_
        rotate_left
        refine' mkR1 (fun W x2 => Below U.heap.size U W ∧ Good W x2 (.slice a2 t c2)) (fun R2 => ?_) ?_
        rotate_left
        refine' mkR1 (fun W x1 => Below U.heap.size U W ∧ Good W x1 (.slice a1 t c1)) (fun R1 => ?_) ?_
        rotate_left
        · skip
          refine wpAnyH_ready (rs := [3, 8, 14, 18]) (by kernel_rfl) (by simp) ?_
          refine AllReadyH.cons rfl (fun Kq hKq => ?_) (AllReadyH.cons rfl (fun Kq hKq => ?_) (AllReadyH.cons rfl (fun Kq hKq => ?_) (AllReadyH.cons rfl (fun Kq hKq => ?_) AllReadyH.nil)))
          · go_simp
            refine hKq.out _ _ (below_alL hW _) (fun hHeld => ?_)
            clear hKq Kq hHeld
            have n1 := Good.new W (.slice a1 t c1)
            have nW := below_alL hW (.cells #[.slice a1 t c1] 22)
            generalize (Value.slice (some ⟨W.heap.size, 0, none⟩) 1 1) = x1 at *
            generalize W.alloc (.cells #[.slice a1 t c1] 22) = W2 at *
            exact R1.out W2 x1 ⟨nW, n1⟩
          · go_simp
            refine hKq.out _ _ (below_alL hW _) (fun hHeld => ?_)
            clear hKq Kq hHeld
            have n2 := Good.new W (.slice a2 t c2)
            have nW := below_alL hW (.cells #[.slice a2 t c2] 22)
            generalize (Value.slice (some ⟨W.heap.size, 0, none⟩) 1 1) = x2 at *
            generalize W.alloc (.cells #[.slice a2 t c2] 22) = W2 at *
            exact R2.out W2 x2 ⟨nW, n2⟩
          · go_simp
            refine hKq.out _ _ (below_alL hW _) (fun hHeld => ?_)
            clear hKq Kq hHeld
            have n3 := Good.new W (.slice a3 t c3)
            have nW := below_alL hW (.cells #[.slice a3 t c3] 22)
            generalize (Value.slice (some ⟨W.heap.size, 0, none⟩) 1 1) = x3 at *
            generalize W.alloc (.cells #[.slice a3 t c3] 22) = W2 at *
            exact R3.out W2 x3 ⟨nW, n3⟩
          · go_simp
            refine hKq.out _ _ (below_alL hW _) (fun hHeld => ?_)
            clear hKq Kq hHeld
            have n4 := Good.new W (.slice (some ⟨g3, 0, none⟩) t d3)
            have nW := below_alL hW (.cells #[.slice (some ⟨g3, 0, none⟩) t d3] 22)
            generalize (Value.slice (some ⟨W.heap.size, 0, none⟩) 1 1) = x4 at *
            generalize W.alloc (.cells #[.slice (some ⟨g3, 0, none⟩) t d3] 22) = W2 at *
            exact R4.out W2 x4 ⟨nW, n4⟩
        · rintro W x1 ⟨hW, h1⟩
          refine wpAnyH_ready (rs := [4, 8, 14, 18]) (by kernel_rfl) (by simp) ?_
          refine AllReadyH.cons rfl (fun Kq hKq => ?_) (AllReadyH.cons rfl (fun Kq hKq => ?_) (AllReadyH.cons rfl (fun Kq hKq => ?_) (AllReadyH.cons rfl (fun Kq hKq => ?_) AllReadyH.nil)))
          · obtain ⟨g, rfl, hc⟩ := h1
            go_simp
            refine (C1.out W g hW hc).mono ?_
            rintro e w9 ⟨rfl, hw9⟩
            have hw8 := hw9.symm
            subst hw8
            refine hKq.out _ _ hW (fun hHeld => ?_)
            clear hKq Kq hHeld
            generalize (Value.slice (some ⟨g, 0, none⟩) 1 1) = x1
            exact R11.out W x1 hW
          · go_simp
            refine hKq.out _ _ (below_alL hW _) (fun hHeld => ?_)
            clear hKq Kq hHeld
            have n2 := Good.new W (.slice a2 t c2)
            have m1 := h1.alloc (.cells #[.slice a2 t c2] 22)
            have nW := below_alL hW (.cells #[.slice a2 t c2] 22)
            generalize (Value.slice (some ⟨W.heap.size, 0, none⟩) 1 1) = x2 at *
            generalize W.alloc (.cells #[.slice a2 t c2] 22) = W2 at *
            exact R5.out W2 x1 x2 ⟨nW, m1, n2⟩
          · go_simp
            refine hKq.out _ _ (below_alL hW _) (fun hHeld => ?_)
            clear hKq Kq hHeld
            have n3 := Good.new W (.slice a3 t c3)
            have m1 := h1.alloc (.cells #[.slice a3 t c3] 22)
            have nW := below_alL hW (.cells #[.slice a3 t c3] 22)
            generalize (Value.slice (some ⟨W.heap.size, 0, none⟩) 1 1) = x3 at *
            generalize W.alloc (.cells #[.slice a3 t c3] 22) = W2 at *
            exact R6.out W2 x1 x3 ⟨nW, m1, n3⟩
          · go_simp
            refine hKq.out _ _ (below_alL hW _) (fun hHeld => ?_)
            clear hKq Kq hHeld
            have n4 := Good.new W (.slice (some ⟨g3, 0, none⟩) t d3)
            have m1 := h1.alloc (.cells #[.slice (some ⟨g3, 0, none⟩) t d3] 22)
            have nW := below_alL hW (.cells #[.slice (some ⟨g3, 0, none⟩) t d3] 22)
            generalize (Value.slice (some ⟨W.heap.size, 0, none⟩) 1 1) = x4 at *
            generalize W.alloc (.cells #[.slice (some ⟨g3, 0, none⟩) t d3] 22) = W2 at *
            exact R7.out W2 x1 x4 ⟨nW, m1, n4⟩
        · rintro W x2 ⟨hW, h2⟩
          refine wpAnyH_ready (rs := [3, 14, 18]) (by kernel_rfl) (by simp) ?_
          refine AllReadyH.cons rfl (fun Kq hKq => ?_) (AllReadyH.cons rfl (fun Kq hKq => ?_) (AllReadyH.cons rfl (fun Kq hKq => ?_) AllReadyH.nil))
          · go_simp
            refine hKq.out _ _ (below_alL hW _) (fun hHeld => ?_)
            clear hKq Kq hHeld
            have n1 := Good.new W (.slice a1 t c1)
            have m2 := h2.alloc (.cells #[.slice a1 t c1] 22)
            have nW := below_alL hW (.cells #[.slice a1 t c1] 22)
            generalize (Value.slice (some ⟨W.heap.size, 0, none⟩) 1 1) = x1 at *
            generalize W.alloc (.cells #[.slice a1 t c1] 22) = W2 at *
            exact R5.out W2 x1 x2 ⟨nW, n1, m2⟩
          · go_simp
            refine hKq.out _ _ (below_alL hW _) (fun hHeld => ?_)
            clear hKq Kq hHeld
            have n3 := Good.new W (.slice a3 t c3)
            have m2 := h2.alloc (.cells #[.slice a3 t c3] 22)
            have nW := below_alL hW (.cells #[.slice a3 t c3] 22)
            generalize (Value.slice (some ⟨W.heap.size, 0, none⟩) 1 1) = x3 at *
            generalize W.alloc (.cells #[.slice a3 t c3] 22) = W2 at *
            exact R8.out W2 x2 x3 ⟨nW, m2, n3⟩
          · go_simp
            refine hKq.out _ _ (below_alL hW _) (fun hHeld => ?_)
            clear hKq Kq hHeld
            have n4 := Good.new W (.slice (some ⟨g3, 0, none⟩) t d3)
            have m2 := h2.alloc (.cells #[.slice (some ⟨g3, 0, none⟩) t d3] 22)
            have nW := below_alL hW (.cells #[.slice (some ⟨g3, 0, none⟩) t d3] 22)
            generalize (Value.slice (some ⟨W.heap.size, 0, none⟩) 1 1) = x4 at *
            generalize W.alloc (.cells #[.slice (some ⟨g3, 0, none⟩) t d3] 22) = W2 at *
            exact R9.out W2 x2 x4 ⟨nW, m2, n4⟩
        · rintro W x3 ⟨hW, h3⟩
          refine wpAnyH_ready (rs := [3, 8, 18]) (by kernel_rfl) (by simp) ?_
          refine AllReadyH.cons rfl (fun Kq hKq => ?_) (AllReadyH.cons rfl (fun Kq hKq => ?_) (AllReadyH.cons rfl (fun Kq hKq => ?_) AllReadyH.nil))
          · go_simp
            refine hKq.out _ _ (below_alL hW _) (fun hHeld => ?_)
            clear hKq Kq hHeld
            have n1 := Good.new W (.slice a1 t c1)
            have m3 := h3.alloc (.cells #[.slice a1 t c1] 22)
            have nW := below_alL hW (.cells #[.slice a1 t c1] 22)
            generalize (Value.slice (some ⟨W.heap.size, 0, none⟩) 1 1) = x1 at *
            generalize W.alloc (.cells #[.slice a1 t c1] 22) = W2 at *
            exact R6.out W2 x1 x3 ⟨nW, n1, m3⟩
          · go_simp
            refine hKq.out _ _ (below_alL hW _) (fun hHeld => ?_)
            clear hKq Kq hHeld
            have n2 := Good.new W (.slice a2 t c2)
            have m3 := h3.alloc (.cells #[.slice a2 t c2] 22)
            have nW := below_alL hW (.cells #[.slice a2 t c2] 22)
            generalize (Value.slice (some ⟨W.heap.size, 0, none⟩) 1 1) = x2 at *
            generalize W.alloc (.cells #[.slice a2 t c2] 22) = W2 at *
            exact R8.out W2 x2 x3 ⟨nW, n2, m3⟩
          · go_simp
            refine hKq.out _ _ (below_alL hW _) (fun hHeld => ?_)
            clear hKq Kq hHeld
            have n4 := Good.new W (.slice (some ⟨g3, 0, none⟩) t d3)
            have m3 := h3.alloc (.cells #[.slice (some ⟨g3, 0, none⟩) t d3] 22)
            have nW := below_alL hW (.cells #[.slice (some ⟨g3, 0, none⟩) t d3] 22)
            generalize (Value.slice (some ⟨W.heap.size, 0, none⟩) 1 1) = x4 at *
            generalize W.alloc (.cells #[.slice (some ⟨g3, 0, none⟩) t d3] 22) = W2 at *
            exact R10.out W2 x3 x4 ⟨nW, m3, n4⟩
        · rintro W x4 ⟨hW, h4⟩
          refine wpAnyH_ready (rs := [3, 8, 14]) (by kernel_rfl) (by simp) ?_
          refine AllReadyH.cons rfl (fun Kq hKq => ?_) (AllReadyH.cons rfl (fun Kq hKq => ?_) (AllReadyH.cons rfl (fun Kq hKq => ?_) AllReadyH.nil))
          · go_simp
            refine hKq.out _ _ (below_alL hW _) (fun hHeld => ?_)
            clear hKq Kq hHeld
            have n1 := Good.new W (.slice a1 t c1)
            have m4 := h4.alloc (.cells #[.slice a1 t c1] 22)
            have nW := below_alL hW (.cells #[.slice a1 t c1] 22)
            generalize (Value.slice (some ⟨W.heap.size, 0, none⟩) 1 1) = x1 at *
            generalize W.alloc (.cells #[.slice a1 t c1] 22) = W2 at *
            exact R7.out W2 x1 x4 ⟨nW, n1, m4⟩
          · go_simp
            refine hKq.out _ _ (below_alL hW _) (fun hHeld => ?_)
            clear hKq Kq hHeld
            have n2 := Good.new W (.slice a2 t c2)
            have m4 := h4.alloc (.cells #[.slice a2 t c2] 22)
            have nW := below_alL hW (.cells #[.slice a2 t c2] 22)
            generalize (Value.slice (some ⟨W.heap.size, 0, none⟩) 1 1) = x2 at *
            generalize W.alloc (.cells #[.slice a2 t c2] 22) = W2 at *
            exact R9.out W2 x2 x4 ⟨nW, n2, m4⟩
          · go_simp
            refine hKq.out _ _ (below_alL hW _) (fun hHeld => ?_)
            clear hKq Kq hHeld
            have n3 := Good.new W (.slice a3 t c3)
            have m4 := h4.alloc (.cells #[.slice a3 t c3] 22)
            have nW := below_alL hW (.cells #[.slice a3 t c3] 22)
            generalize (Value.slice (some ⟨W.heap.size, 0, none⟩) 1 1) = x3 at *
            generalize W.alloc (.cells #[.slice a3 t c3] 22) = W2 at *
            exact R10.out W2 x3 x4 ⟨nW, n3, m4⟩
        · rintro W x1 x2 ⟨hW, h1, h2⟩
          refine wpAnyH_ready (rs := [4, 14, 18]) (by kernel_rfl) (by simp) ?_
          refine AllReadyH.cons rfl (fun Kq hKq => ?_) (AllReadyH.cons rfl (fun Kq hKq => ?_) (AllReadyH.cons rfl (fun Kq hKq => ?_) AllReadyH.nil))
          · obtain ⟨g, rfl, hc⟩ := h1
            go_simp
            refine (C1.out W g hW hc).mono ?_
            rintro e w9 ⟨rfl, hw9⟩
            have hw8 := hw9.symm
            subst hw8
            refine hKq.out _ _ hW (fun hHeld => ?_)
            clear hKq Kq hHeld
            generalize (Value.slice (some ⟨g, 0, none⟩) 1 1) = x1
            exact R16.out W x1 x2 ⟨hW, h2⟩
          · go_simp
            refine hKq.out _ _ (below_alL hW _) (fun hHeld => ?_)
            clear hKq Kq hHeld
            have n3 := Good.new W (.slice a3 t c3)
            have m1 := h1.alloc (.cells #[.slice a3 t c3] 22)
            have m2 := h2.alloc (.cells #[.slice a3 t c3] 22)
            have nW := below_alL hW (.cells #[.slice a3 t c3] 22)
            generalize (Value.slice (some ⟨W.heap.size, 0, none⟩) 1 1) = x3 at *
            generalize W.alloc (.cells #[.slice a3 t c3] 22) = W2 at *
            exact R12.out W2 x1 x2 x3 ⟨nW, m1, m2, n3⟩
          · go_simp
            refine hKq.out _ _ (below_alL hW _) (fun hHeld => ?_)
            clear hKq Kq hHeld
            have n4 := Good.new W (.slice (some ⟨g3, 0, none⟩) t d3)
            have m1 := h1.alloc (.cells #[.slice (some ⟨g3, 0, none⟩) t d3] 22)
            have m2 := h2.alloc (.cells #[.slice (some ⟨g3, 0, none⟩) t d3] 22)
            have nW := below_alL hW (.cells #[.slice (some ⟨g3, 0, none⟩) t d3] 22)
            generalize (Value.slice (some ⟨W.heap.size, 0, none⟩) 1 1) = x4 at *
            generalize W.alloc (.cells #[.slice (some ⟨g3, 0, none⟩) t d3] 22) = W2 at *
            exact R13.out W2 x1 x2 x4 ⟨nW, m1, m2, n4⟩
        · rintro W x1 x3 ⟨hW, h1, h3⟩
          refine wpAnyH_ready (rs := [4, 8, 18]) (by kernel_rfl) (by simp) ?_
          refine AllReadyH.cons rfl (fun Kq hKq => ?_) (AllReadyH.cons rfl (fun Kq hKq => ?_) (AllReadyH.cons rfl (fun Kq hKq => ?_) AllReadyH.nil))
          · obtain ⟨g, rfl, hc⟩ := h1
            go_simp
            refine (C1.out W g hW hc).mono ?_
            rintro e w9 ⟨rfl, hw9⟩
            have hw8 := hw9.symm
            subst hw8
            refine hKq.out _ _ hW (fun hHeld => ?_)
            clear hKq Kq hHeld
            generalize (Value.slice (some ⟨g, 0, none⟩) 1 1) = x1
            exact R17.out W x1 x3 ⟨hW, h3⟩
          · go_simp
            refine hKq.out _ _ (below_alL hW _) (fun hHeld => ?_)
            clear hKq Kq hHeld
            have n2 := Good.new W (.slice a2 t c2)
            have m1 := h1.alloc (.cells #[.slice a2 t c2] 22)
            have m3 := h3.alloc (.cells #[.slice a2 t c2] 22)
            have nW := below_alL hW (.cells #[.slice a2 t c2] 22)
            generalize (Value.slice (some ⟨W.heap.size, 0, none⟩) 1 1) = x2 at *
            generalize W.alloc (.cells #[.slice a2 t c2] 22) = W2 at *
            exact R12.out W2 x1 x2 x3 ⟨nW, m1, n2, m3⟩
          · go_simp
            refine hKq.out _ _ (below_alL hW _) (fun hHeld => ?_)
            clear hKq Kq hHeld
            have n4 := Good.new W (.slice (some ⟨g3, 0, none⟩) t d3)
            have m1 := h1.alloc (.cells #[.slice (some ⟨g3, 0, none⟩) t d3] 22)
            have m3 := h3.alloc (.cells #[.slice (some ⟨g3, 0, none⟩) t d3] 22)
            have nW := below_alL hW (.cells #[.slice (some ⟨g3, 0, none⟩) t d3] 22)
            generalize (Value.slice (some ⟨W.heap.size, 0, none⟩) 1 1) = x4 at *
            generalize W.alloc (.cells #[.slice (some ⟨g3, 0, none⟩) t d3] 22) = W2 at *
            exact R14.out W2 x1 x3 x4 ⟨nW, m1, m3, n4⟩
        · rintro W x1 x4 ⟨hW, h1, h4⟩
          refine wpAnyH_ready (rs := [4, 8, 14]) (by kernel_rfl) (by simp) ?_
          refine AllReadyH.cons rfl (fun Kq hKq => ?_) (AllReadyH.cons rfl (fun Kq hKq => ?_) (AllReadyH.cons rfl (fun Kq hKq => ?_) AllReadyH.nil))
          · obtain ⟨g, rfl, hc⟩ := h1
            go_simp
            refine (C1.out W g hW hc).mono ?_
            rintro e w9 ⟨rfl, hw9⟩
            have hw8 := hw9.symm
            subst hw8
            refine hKq.out _ _ hW (fun hHeld => ?_)
            clear hKq Kq hHeld
            generalize (Value.slice (some ⟨g, 0, none⟩) 1 1) = x1
            exact R18.out W x1 x4 ⟨hW, h4⟩
          · go_simp
            refine hKq.out _ _ (below_alL hW _) (fun hHeld => ?_)
            clear hKq Kq hHeld
            have n2 := Good.new W (.slice a2 t c2)
            have m1 := h1.alloc (.cells #[.slice a2 t c2] 22)
            have m4 := h4.alloc (.cells #[.slice a2 t c2] 22)
            have nW := below_alL hW (.cells #[.slice a2 t c2] 22)
            generalize (Value.slice (some ⟨W.heap.size, 0, none⟩) 1 1) = x2 at *
            generalize W.alloc (.cells #[.slice a2 t c2] 22) = W2 at *
            exact R13.out W2 x1 x2 x4 ⟨nW, m1, n2, m4⟩
          · go_simp
            refine hKq.out _ _ (below_alL hW _) (fun hHeld => ?_)
            clear hKq Kq hHeld
            have n3 := Good.new W (.slice a3 t c3)
            have m1 := h1.alloc (.cells #[.slice a3 t c3] 22)
            have m4 := h4.alloc (.cells #[.slice a3 t c3] 22)
            have nW := below_alL hW (.cells #[.slice a3 t c3] 22)
            generalize (Value.slice (some ⟨W.heap.size, 0, none⟩) 1 1) = x3 at *
            generalize W.alloc (.cells #[.slice a3 t c3] 22) = W2 at *
            exact R14.out W2 x1 x3 x4 ⟨nW, m1, n3, m4⟩
        · rintro W x2 x3 ⟨hW, h2, h3⟩
          refine wpAnyH_ready (rs := [3, 18]) (by kernel_rfl) (by simp) ?_
          refine AllReadyH.cons rfl (fun Kq hKq => ?_) (AllReadyH.cons rfl (fun Kq hKq => ?_) AllReadyH.nil)
          · go_simp
            refine hKq.out _ _ (below_alL hW _) (fun hHeld => ?_)
            clear hKq Kq hHeld
            have n1 := Good.new W (.slice a1 t c1)
            have m2 := h2.alloc (.cells #[.slice a1 t c1] 22)
            have m3 := h3.alloc (.cells #[.slice a1 t c1] 22)
            have nW := below_alL hW (.cells #[.slice a1 t c1] 22)
            generalize (Value.slice (some ⟨W.heap.size, 0, none⟩) 1 1) = x1 at *
            generalize W.alloc (.cells #[.slice a1 t c1] 22) = W2 at *
            exact R12.out W2 x1 x2 x3 ⟨nW, n1, m2, m3⟩
          · go_simp
            refine hKq.out _ _ (below_alL hW _) (fun hHeld => ?_)
            clear hKq Kq hHeld
            have n4 := Good.new W (.slice (some ⟨g3, 0, none⟩) t d3)
            have m2 := h2.alloc (.cells #[.slice (some ⟨g3, 0, none⟩) t d3] 22)
            have m3 := h3.alloc (.cells #[.slice (some ⟨g3, 0, none⟩) t d3] 22)
            have nW := below_alL hW (.cells #[.slice (some ⟨g3, 0, none⟩) t d3] 22)
            generalize (Value.slice (some ⟨W.heap.size, 0, none⟩) 1 1) = x4 at *
            generalize W.alloc (.cells #[.slice (some ⟨g3, 0, none⟩) t d3] 22) = W2 at *
            exact R15.out W2 x2 x3 x4 ⟨nW, m2, m3, n4⟩
        · rintro W x2 x4 ⟨hW, h2, h4⟩
          refine wpAnyH_ready (rs := [3, 14]) (by kernel_rfl) (by simp) ?_
          refine AllReadyH.cons rfl (fun Kq hKq => ?_) (AllReadyH.cons rfl (fun Kq hKq => ?_) AllReadyH.nil)
          · go_simp
            refine hKq.out _ _ (below_alL hW _) (fun hHeld => ?_)
            clear hKq Kq hHeld
            have n1 := Good.new W (.slice a1 t c1)
            have m2 := h2.alloc (.cells #[.slice a1 t c1] 22)
            have m4 := h4.alloc (.cells #[.slice a1 t c1] 22)
            have nW := below_alL hW (.cells #[.slice a1 t c1] 22)
            generalize (Value.slice (some ⟨W.heap.size, 0, none⟩) 1 1) = x1 at *
            generalize W.alloc (.cells #[.slice a1 t c1] 22) = W2 at *
            exact R13.out W2 x1 x2 x4 ⟨nW, n1, m2, m4⟩
          · go_simp
            refine hKq.out _ _ (below_alL hW _) (fun hHeld => ?_)
            clear hKq Kq hHeld
            have n3 := Good.new W (.slice a3 t c3)
            have m2 := h2.alloc (.cells #[.slice a3 t c3] 22)
            have m4 := h4.alloc (.cells #[.slice a3 t c3] 22)
            have nW := below_alL hW (.cells #[.slice a3 t c3] 22)
            generalize (Value.slice (some ⟨W.heap.size, 0, none⟩) 1 1) = x3 at *
            generalize W.alloc (.cells #[.slice a3 t c3] 22) = W2 at *
            exact R15.out W2 x2 x3 x4 ⟨nW, m2, n3, m4⟩
        · rintro W x3 x4 ⟨hW, h3, h4⟩
          refine wpAnyH_ready (rs := [3, 8]) (by kernel_rfl) (by simp) ?_
          refine AllReadyH.cons rfl (fun Kq hKq => ?_) (AllReadyH.cons rfl (fun Kq hKq => ?_) AllReadyH.nil)
          · go_simp
            refine hKq.out _ _ (below_alL hW _) (fun hHeld => ?_)
            clear hKq Kq hHeld
            have n1 := Good.new W (.slice a1 t c1)
            have m3 := h3.alloc (.cells #[.slice a1 t c1] 22)
            have m4 := h4.alloc (.cells #[.slice a1 t c1] 22)
            have nW := below_alL hW (.cells #[.slice a1 t c1] 22)
            generalize (Value.slice (some ⟨W.heap.size, 0, none⟩) 1 1) = x1 at *
            generalize W.alloc (.cells #[.slice a1 t c1] 22) = W2 at *
            exact R14.out W2 x1 x3 x4 ⟨nW, n1, m3, m4⟩
          · go_simp
            refine hKq.out _ _ (below_alL hW _) (fun hHeld => ?_)
            clear hKq Kq hHeld
            have n2 := Good.new W (.slice a2 t c2)
            have m3 := h3.alloc (.cells #[.slice a2 t c2] 22)
            have m4 := h4.alloc (.cells #[.slice a2 t c2] 22)
            have nW := below_alL hW (.cells #[.slice a2 t c2] 22)
            generalize (Value.slice (some ⟨W.heap.size, 0, none⟩) 1 1) = x2 at *
            generalize W.alloc (.cells #[.slice a2 t c2] 22) = W2 at *
            exact R15.out W2 x2 x3 x4 ⟨nW, n2, m3, m4⟩
        · rintro W x1 hW
          refine wpAnyH_ready (rs := [8, 14, 18]) (by kernel_rfl) (by simp) ?_
          refine AllReadyH.cons rfl (fun Kq hKq => ?_) (AllReadyH.cons rfl (fun Kq hKq => ?_) (AllReadyH.cons rfl (fun Kq hKq => ?_) AllReadyH.nil))
          · go_simp
            refine hKq.out _ _ (below_alL hW _) (fun hHeld => ?_)
            clear hKq Kq hHeld
            have n2 := Good.new W (.slice a2 t c2)
            have nW := below_alL hW (.cells #[.slice a2 t c2] 22)
            generalize (Value.slice (some ⟨W.heap.size, 0, none⟩) 1 1) = x2 at *
            generalize W.alloc (.cells #[.slice a2 t c2] 22) = W2 at *
            exact R16.out W2 x1 x2 ⟨nW, n2⟩
          · go_simp
            refine hKq.out _ _ (below_alL hW _) (fun hHeld => ?_)
            clear hKq Kq hHeld
            have n3 := Good.new W (.slice a3 t c3)
            have nW := below_alL hW (.cells #[.slice a3 t c3] 22)
            generalize (Value.slice (some ⟨W.heap.size, 0, none⟩) 1 1) = x3 at *
            generalize W.alloc (.cells #[.slice a3 t c3] 22) = W2 at *
            exact R17.out W2 x1 x3 ⟨nW, n3⟩
          · go_simp
            refine hKq.out _ _ (below_alL hW _) (fun hHeld => ?_)
            clear hKq Kq hHeld
            have n4 := Good.new W (.slice (some ⟨g3, 0, none⟩) t d3)
            have nW := below_alL hW (.cells #[.slice (some ⟨g3, 0, none⟩) t d3] 22)
            generalize (Value.slice (some ⟨W.heap.size, 0, none⟩) 1 1) = x4 at *
            generalize W.alloc (.cells #[.slice (some ⟨g3, 0, none⟩) t d3] 22) = W2 at *
            exact R18.out W2 x1 x4 ⟨nW, n4⟩
        · rintro W x1 x2 x3 ⟨hW, h1, h2, h3⟩
          refine wpAnyH_ready (rs := [4, 18]) (by kernel_rfl) (by simp) ?_
          refine AllReadyH.cons rfl (fun Kq hKq => ?_) (AllReadyH.cons rfl (fun Kq hKq => ?_) AllReadyH.nil)
          · obtain ⟨g, rfl, hc⟩ := h1
            go_simp
            refine (C1.out W g hW hc).mono ?_
            rintro e w9 ⟨rfl, hw9⟩
            have hw8 := hw9.symm
            subst hw8
            refine hKq.out _ _ hW (fun hHeld => ?_)
            clear hKq Kq hHeld
            generalize (Value.slice (some ⟨g, 0, none⟩) 1 1) = x1
            exact R20.out W x1 x2 x3 ⟨hW, h2, h3⟩
          · go_simp
            refine hKq.out _ _ (below_alL hW _) (fun hHeld => ?_)
            clear hKq Kq hHeld
            have n4 := Good.new W (.slice (some ⟨g3, 0, none⟩) t d3)
            have m1 := h1.alloc (.cells #[.slice (some ⟨g3, 0, none⟩) t d3] 22)
            have m2 := h2.alloc (.cells #[.slice (some ⟨g3, 0, none⟩) t d3] 22)
            have m3 := h3.alloc (.cells #[.slice (some ⟨g3, 0, none⟩) t d3] 22)
            have nW := below_alL hW (.cells #[.slice (some ⟨g3, 0, none⟩) t d3] 22)
            generalize (Value.slice (some ⟨W.heap.size, 0, none⟩) 1 1) = x4 at *
            generalize W.alloc (.cells #[.slice (some ⟨g3, 0, none⟩) t d3] 22) = W2 at *
            exact R19.out W2 x1 x2 x3 x4 ⟨nW, m1, m2, m3, n4⟩
        · rintro W x1 x2 x4 ⟨hW, h1, h2, h4⟩
          refine wpAnyH_ready (rs := [4, 14]) (by kernel_rfl) (by simp) ?_
          refine AllReadyH.cons rfl (fun Kq hKq => ?_) (AllReadyH.cons rfl (fun Kq hKq => ?_) AllReadyH.nil)
          · obtain ⟨g, rfl, hc⟩ := h1
            go_simp
            refine (C1.out W g hW hc).mono ?_
            rintro e w9 ⟨rfl, hw9⟩
            have hw8 := hw9.symm
            subst hw8
            refine hKq.out _ _ hW (fun hHeld => ?_)
            clear hKq Kq hHeld
            generalize (Value.slice (some ⟨g, 0, none⟩) 1 1) = x1
            exact R21.out W x1 x2 x4 ⟨hW, h2, h4⟩
          · go_simp
            refine hKq.out _ _ (below_alL hW _) (fun hHeld => ?_)
            clear hKq Kq hHeld
            have n3 := Good.new W (.slice a3 t c3)
            have m1 := h1.alloc (.cells #[.slice a3 t c3] 22)
            have m2 := h2.alloc (.cells #[.slice a3 t c3] 22)
            have m4 := h4.alloc (.cells #[.slice a3 t c3] 22)
            have nW := below_alL hW (.cells #[.slice a3 t c3] 22)
            generalize (Value.slice (some ⟨W.heap.size, 0, none⟩) 1 1) = x3 at *
            generalize W.alloc (.cells #[.slice a3 t c3] 22) = W2 at *
            exact R19.out W2 x1 x2 x3 x4 ⟨nW, m1, m2, n3, m4⟩
        · rintro W x1 x3 x4 ⟨hW, h1, h3, h4⟩
          refine wpAnyH_ready (rs := [4, 8]) (by kernel_rfl) (by simp) ?_
          refine AllReadyH.cons rfl (fun Kq hKq => ?_) (AllReadyH.cons rfl (fun Kq hKq => ?_) AllReadyH.nil)
          · obtain ⟨g, rfl, hc⟩ := h1
            go_simp
            refine (C1.out W g hW hc).mono ?_
            rintro e w9 ⟨rfl, hw9⟩
            have hw8 := hw9.symm
            subst hw8
            refine hKq.out _ _ hW (fun hHeld => ?_)
            clear hKq Kq hHeld
            generalize (Value.slice (some ⟨g, 0, none⟩) 1 1) = x1
            exact R22.out W x1 x3 x4 ⟨hW, h3, h4⟩
          · go_simp
            refine hKq.out _ _ (below_alL hW _) (fun hHeld => ?_)
            clear hKq Kq hHeld
            have n2 := Good.new W (.slice a2 t c2)
            have m1 := h1.alloc (.cells #[.slice a2 t c2] 22)
            have m3 := h3.alloc (.cells #[.slice a2 t c2] 22)
            have m4 := h4.alloc (.cells #[.slice a2 t c2] 22)
            have nW := below_alL hW (.cells #[.slice a2 t c2] 22)
            generalize (Value.slice (some ⟨W.heap.size, 0, none⟩) 1 1) = x2 at *
            generalize W.alloc (.cells #[.slice a2 t c2] 22) = W2 at *
            exact R19.out W2 x1 x2 x3 x4 ⟨nW, m1, n2, m3, m4⟩
        · rintro W x2 x3 x4 ⟨hW, h2, h3, h4⟩
          refine wpAnyH_ready (rs := [3]) (by kernel_rfl) (by simp) ?_
          refine AllReadyH.cons rfl (fun Kq hKq => ?_) AllReadyH.nil
          · go_simp
            refine hKq.out _ _ (below_alL hW _) (fun hHeld => ?_)
            clear hKq Kq hHeld
            have n1 := Good.new W (.slice a1 t c1)
            have m2 := h2.alloc (.cells #[.slice a1 t c1] 22)
            have m3 := h3.alloc (.cells #[.slice a1 t c1] 22)
            have m4 := h4.alloc (.cells #[.slice a1 t c1] 22)
            have nW := below_alL hW (.cells #[.slice a1 t c1] 22)
            generalize (Value.slice (some ⟨W.heap.size, 0, none⟩) 1 1) = x1 at *
            generalize W.alloc (.cells #[.slice a1 t c1] 22) = W2 at *
            exact R19.out W2 x1 x2 x3 x4 ⟨nW, n1, m2, m3, m4⟩
        · rintro W x1 x2 ⟨hW, h2⟩
          refine wpAnyH_ready (rs := [9, 14, 18]) (by kernel_rfl) (by simp) ?_
          refine AllReadyH.cons rfl (fun Kq hKq => ?_) (AllReadyH.cons rfl (fun Kq hKq => ?_) (AllReadyH.cons rfl (fun Kq hKq => ?_) AllReadyH.nil))
          · obtain ⟨g, rfl, hc⟩ := h2
            go_simp
            refine (C2.out W g hW hc).mono ?_
            rintro e w9 ⟨rfl, hw9⟩
            have hw8 := hw9.symm
            subst hw8
            refine hKq.out _ _ hW (fun hHeld => ?_)
            clear hKq Kq hHeld
            refine wpAnyH_take (i := 10) (v := ?_) rfl (by kernel_rfl) (by kernel_rfl) (by kernel_rfl) (fun _ _ _ h => h) (Or.inl ⟨by rfl, ?_⟩) (by assumption) ?_
            rotate_left
            · intro wq hSq
              go_simp
              try with_reducible rfl
            simp only [List.getElem_toArray, List.getElem_cons_succ, List.getElem_cons_zero, Act.put, List.setIfInBounds_toArray, List.set_cons_zero, List.set_cons_succ]
            generalize (Value.slice (some ⟨g, 0, none⟩) 1 1) = x2
            exact R23.out W x1 x2 hW
          · go_simp
            refine hKq.out _ _ (below_alL hW _) (fun hHeld => ?_)
            clear hKq Kq hHeld
            have n3 := Good.new W (.slice a3 t c3)
            have m2 := h2.alloc (.cells #[.slice a3 t c3] 22)
            have nW := below_alL hW (.cells #[.slice a3 t c3] 22)
            generalize (Value.slice (some ⟨W.heap.size, 0, none⟩) 1 1) = x3 at *
            generalize W.alloc (.cells #[.slice a3 t c3] 22) = W2 at *
            exact R20.out W2 x1 x2 x3 ⟨nW, m2, n3⟩
          · go_simp
            refine hKq.out _ _ (below_alL hW _) (fun hHeld => ?_)
            clear hKq Kq hHeld
            have n4 := Good.new W (.slice (some ⟨g3, 0, none⟩) t d3)
            have m2 := h2.alloc (.cells #[.slice (some ⟨g3, 0, none⟩) t d3] 22)
            have nW := below_alL hW (.cells #[.slice (some ⟨g3, 0, none⟩) t d3] 22)
            generalize (Value.slice (some ⟨W.heap.size, 0, none⟩) 1 1) = x4 at *
            generalize W.alloc (.cells #[.slice (some ⟨g3, 0, none⟩) t d3] 22) = W2 at *
            exact R21.out W2 x1 x2 x4 ⟨nW, m2, n4⟩
        · rintro W x1 x3 ⟨hW, h3⟩
          refine wpAnyH_ready (rs := [8, 18]) (by kernel_rfl) (by simp) ?_
          refine AllReadyH.cons rfl (fun Kq hKq => ?_) (AllReadyH.cons rfl (fun Kq hKq => ?_) AllReadyH.nil)
          · go_simp
            refine hKq.out _ _ (below_alL hW _) (fun hHeld => ?_)
            clear hKq Kq hHeld
            have n2 := Good.new W (.slice a2 t c2)
            have m3 := h3.alloc (.cells #[.slice a2 t c2] 22)
            have nW := below_alL hW (.cells #[.slice a2 t c2] 22)
            generalize (Value.slice (some ⟨W.heap.size, 0, none⟩) 1 1) = x2 at *
            generalize W.alloc (.cells #[.slice a2 t c2] 22) = W2 at *
            exact R20.out W2 x1 x2 x3 ⟨nW, n2, m3⟩
          · go_simp
            refine hKq.out _ _ (below_alL hW _) (fun hHeld => ?_)
            clear hKq Kq hHeld
            have n4 := Good.new W (.slice (some ⟨g3, 0, none⟩) t d3)
            have m3 := h3.alloc (.cells #[.slice (some ⟨g3, 0, none⟩) t d3] 22)
            have nW := below_alL hW (.cells #[.slice (some ⟨g3, 0, none⟩) t d3] 22)
            generalize (Value.slice (some ⟨W.heap.size, 0, none⟩) 1 1) = x4 at *
            generalize W.alloc (.cells #[.slice (some ⟨g3, 0, none⟩) t d3] 22) = W2 at *
            exact R22.out W2 x1 x3 x4 ⟨nW, m3, n4⟩
        · rintro W x1 x4 ⟨hW, h4⟩
          refine wpAnyH_ready (rs := [8, 14]) (by kernel_rfl) (by simp) ?_
          refine AllReadyH.cons rfl (fun Kq hKq => ?_) (AllReadyH.cons rfl (fun Kq hKq => ?_) AllReadyH.nil)
          · go_simp
            refine hKq.out _ _ (below_alL hW _) (fun hHeld => ?_)
            clear hKq Kq hHeld
            have n2 := Good.new W (.slice a2 t c2)
            have m4 := h4.alloc (.cells #[.slice a2 t c2] 22)
            have nW := below_alL hW (.cells #[.slice a2 t c2] 22)
            generalize (Value.slice (some ⟨W.heap.size, 0, none⟩) 1 1) = x2 at *
            generalize W.alloc (.cells #[.slice a2 t c2] 22) = W2 at *
            exact R21.out W2 x1 x2 x4 ⟨nW, n2, m4⟩
          · go_simp
            refine hKq.out _ _ (below_alL hW _) (fun hHeld => ?_)
            clear hKq Kq hHeld
            have n3 := Good.new W (.slice a3 t c3)
            have m4 := h4.alloc (.cells #[.slice a3 t c3] 22)
            have nW := below_alL hW (.cells #[.slice a3 t c3] 22)
            generalize (Value.slice (some ⟨W.heap.size, 0, none⟩) 1 1) = x3 at *
            generalize W.alloc (.cells #[.slice a3 t c3] 22) = W2 at *
            exact R22.out W2 x1 x3 x4 ⟨nW, n3, m4⟩
        · rintro W x1 x2 x3 x4 ⟨hW, h1, h2, h3, h4⟩
          refine wpAnyH_ready (rs := [4]) (by kernel_rfl) (by simp) ?_
          refine AllReadyH.cons rfl (fun Kq hKq => ?_) AllReadyH.nil
          · obtain ⟨g, rfl, hc⟩ := h1
            go_simp
            refine (C1.out W g hW hc).mono ?_
            rintro e w9 ⟨rfl, hw9⟩
            have hw8 := hw9.symm
            subst hw8
            refine hKq.out _ _ hW (fun hHeld => ?_)
            clear hKq Kq hHeld
            generalize (Value.slice (some ⟨g, 0, none⟩) 1 1) = x1
            exact R24.out W x1 x2 x3 x4 ⟨hW, h2, h3, h4⟩
        · rintro W x1 x2 x3 ⟨hW, h2, h3⟩
          refine wpAnyH_ready (rs := [9, 18]) (by kernel_rfl) (by simp) ?_
          refine AllReadyH.cons rfl (fun Kq hKq => ?_) (AllReadyH.cons rfl (fun Kq hKq => ?_) AllReadyH.nil)
          · obtain ⟨g, rfl, hc⟩ := h2
            go_simp
            refine (C2.out W g hW hc).mono ?_
            rintro e w9 ⟨rfl, hw9⟩
            have hw8 := hw9.symm
            subst hw8
            refine hKq.out _ _ hW (fun hHeld => ?_)
            clear hKq Kq hHeld
            refine wpAnyH_take (i := 10) (v := ?_) rfl (by kernel_rfl) (by kernel_rfl) (by kernel_rfl) (fun _ _ _ h => h) (Or.inl ⟨by rfl, ?_⟩) (by assumption) ?_
            rotate_left
            · intro wq hSq
              go_simp
              try with_reducible rfl
            simp only [List.getElem_toArray, List.getElem_cons_succ, List.getElem_cons_zero, Act.put, List.setIfInBounds_toArray, List.set_cons_zero, List.set_cons_succ]
            generalize (Value.slice (some ⟨g, 0, none⟩) 1 1) = x2
            exact R25.out W x1 x2 x3 ⟨hW, h3⟩
          · go_simp
            refine hKq.out _ _ (below_alL hW _) (fun hHeld => ?_)
            clear hKq Kq hHeld
            have n4 := Good.new W (.slice (some ⟨g3, 0, none⟩) t d3)
            have m2 := h2.alloc (.cells #[.slice (some ⟨g3, 0, none⟩) t d3] 22)
            have m3 := h3.alloc (.cells #[.slice (some ⟨g3, 0, none⟩) t d3] 22)
            have nW := below_alL hW (.cells #[.slice (some ⟨g3, 0, none⟩) t d3] 22)
            generalize (Value.slice (some ⟨W.heap.size, 0, none⟩) 1 1) = x4 at *
            generalize W.alloc (.cells #[.slice (some ⟨g3, 0, none⟩) t d3] 22) = W2 at *
            exact R24.out W2 x1 x2 x3 x4 ⟨nW, m2, m3, n4⟩
        · rintro W x1 x2 x4 ⟨hW, h2, h4⟩
          refine wpAnyH_ready (rs := [9, 14]) (by kernel_rfl) (by simp) ?_
          refine AllReadyH.cons rfl (fun Kq hKq => ?_) (AllReadyH.cons rfl (fun Kq hKq => ?_) AllReadyH.nil)
          · obtain ⟨g, rfl, hc⟩ := h2
            go_simp
            refine (C2.out W g hW hc).mono ?_
            rintro e w9 ⟨rfl, hw9⟩
            have hw8 := hw9.symm
            subst hw8
            refine hKq.out _ _ hW (fun hHeld => ?_)
            clear hKq Kq hHeld
            refine wpAnyH_take (i := 10) (v := ?_) rfl (by kernel_rfl) (by kernel_rfl) (by kernel_rfl) (fun _ _ _ h => h) (Or.inl ⟨by rfl, ?_⟩) (by assumption) ?_
            rotate_left
            · intro wq hSq
              go_simp
              try with_reducible rfl
            simp only [List.getElem_toArray, List.getElem_cons_succ, List.getElem_cons_zero, Act.put, List.setIfInBounds_toArray, List.set_cons_zero, List.set_cons_succ]
            generalize (Value.slice (some ⟨g, 0, none⟩) 1 1) = x2
            exact R26.out W x1 x2 x4 ⟨hW, h4⟩
          · go_simp
            refine hKq.out _ _ (below_alL hW _) (fun hHeld => ?_)
            clear hKq Kq hHeld
            have n3 := Good.new W (.slice a3 t c3)
            have m2 := h2.alloc (.cells #[.slice a3 t c3] 22)
            have m4 := h4.alloc (.cells #[.slice a3 t c3] 22)
            have nW := below_alL hW (.cells #[.slice a3 t c3] 22)
            generalize (Value.slice (some ⟨W.heap.size, 0, none⟩) 1 1) = x3 at *
            generalize W.alloc (.cells #[.slice a3 t c3] 22) = W2 at *
            exact R24.out W2 x1 x2 x3 x4 ⟨nW, m2, n3, m4⟩
        · rintro W x1 x3 x4 ⟨hW, h3, h4⟩
          refine wpAnyH_ready (rs := [8]) (by kernel_rfl) (by simp) ?_
          refine AllReadyH.cons rfl (fun Kq hKq => ?_) AllReadyH.nil
          · go_simp
            refine hKq.out _ _ (below_alL hW _) (fun hHeld => ?_)
            clear hKq Kq hHeld
            have n2 := Good.new W (.slice a2 t c2)
            have m3 := h3.alloc (.cells #[.slice a2 t c2] 22)
            have m4 := h4.alloc (.cells #[.slice a2 t c2] 22)
            have nW := below_alL hW (.cells #[.slice a2 t c2] 22)
            generalize (Value.slice (some ⟨W.heap.size, 0, none⟩) 1 1) = x2 at *
            generalize W.alloc (.cells #[.slice a2 t c2] 22) = W2 at *
            exact R24.out W2 x1 x2 x3 x4 ⟨nW, n2, m3, m4⟩
        · rintro W x1 x2 hW
          refine wpAnyH_ready (rs := [14, 18]) (by kernel_rfl) (by simp) ?_
          refine AllReadyH.cons rfl (fun Kq hKq => ?_) (AllReadyH.cons rfl (fun Kq hKq => ?_) AllReadyH.nil)
          · go_simp
            refine hKq.out _ _ (below_alL hW _) (fun hHeld => ?_)
            clear hKq Kq hHeld
            have n3 := Good.new W (.slice a3 t c3)
            have nW := below_alL hW (.cells #[.slice a3 t c3] 22)
            generalize (Value.slice (some ⟨W.heap.size, 0, none⟩) 1 1) = x3 at *
            generalize W.alloc (.cells #[.slice a3 t c3] 22) = W2 at *
            exact R25.out W2 x1 x2 x3 ⟨nW, n3⟩
          · go_simp
            refine hKq.out _ _ (below_alL hW _) (fun hHeld => ?_)
            clear hKq Kq hHeld
            have n4 := Good.new W (.slice (some ⟨g3, 0, none⟩) t d3)
            have nW := below_alL hW (.cells #[.slice (some ⟨g3, 0, none⟩) t d3] 22)
            generalize (Value.slice (some ⟨W.heap.size, 0, none⟩) 1 1) = x4 at *
            generalize W.alloc (.cells #[.slice (some ⟨g3, 0, none⟩) t d3] 22) = W2 at *
            exact R26.out W2 x1 x2 x4 ⟨nW, n4⟩
        · rintro W x1 x2 x3 x4 ⟨hW, h2, h3, h4⟩
          refine wpAnyH_ready (rs := [9]) (by kernel_rfl) (by simp) ?_
          refine AllReadyH.cons rfl (fun Kq hKq => ?_) AllReadyH.nil
          · obtain ⟨g, rfl, hc⟩ := h2
            go_simp
            refine (C2.out W g hW hc).mono ?_
            rintro e w9 ⟨rfl, hw9⟩
            have hw8 := hw9.symm
            subst hw8
            refine hKq.out _ _ hW (fun hHeld => ?_)
            clear hKq Kq hHeld
            refine wpAnyH_take (i := 10) (v := ?_) rfl (by kernel_rfl) (by kernel_rfl) (by kernel_rfl) (fun _ _ _ h => h) (Or.inl ⟨by rfl, ?_⟩) (by assumption) ?_
            rotate_left
            · intro wq hSq
              go_simp
              try with_reducible rfl
            simp only [List.getElem_toArray, List.getElem_cons_succ, List.getElem_cons_zero, Act.put, List.setIfInBounds_toArray, List.set_cons_zero, List.set_cons_succ]
            generalize (Value.slice (some ⟨g, 0, none⟩) 1 1) = x2
            exact R27.out W x1 x2 x3 x4 ⟨hW, h3, h4⟩
        · rintro W x1 x2 x3 ⟨hW, h3⟩
          refine wpAnyH_ready (rs := [15, 18]) (by kernel_rfl) (by simp) ?_
          refine AllReadyH.cons rfl (fun Kq hKq => ?_) (AllReadyH.cons rfl (fun Kq hKq => ?_) AllReadyH.nil)
          · obtain ⟨g, rfl, hc⟩ := h3
            go_simp
            refine (C3.out W g hW hc).mono ?_
            rintro e w9 ⟨rfl, hw9⟩
            have hw8 := hw9.symm
            subst hw8
            refine hKq.out _ _ hW (fun hHeld => ?_)
            clear hKq Kq hHeld
            refine wpAnyH_take (i := 16) (v := ?_) rfl (by kernel_rfl) (by kernel_rfl) (by kernel_rfl) (fun _ _ _ h => h) (Or.inl ⟨by rfl, ?_⟩) (by assumption) ?_
            rotate_left
            · intro wq hSq
              go_simp
              try with_reducible rfl
            simp only [List.getElem_toArray, List.getElem_cons_succ, List.getElem_cons_zero, Act.put, List.setIfInBounds_toArray, List.set_cons_zero, List.set_cons_succ]
            generalize (Value.slice (some ⟨g, 0, none⟩) 1 1) = x3
            exact R28.out W x1 x2 x3 hW
          · go_simp
            refine hKq.out _ _ (below_alL hW _) (fun hHeld => ?_)
            clear hKq Kq hHeld
            have n4 := Good.new W (.slice (some ⟨g3, 0, none⟩) t d3)
            have m3 := h3.alloc (.cells #[.slice (some ⟨g3, 0, none⟩) t d3] 22)
            have nW := below_alL hW (.cells #[.slice (some ⟨g3, 0, none⟩) t d3] 22)
            generalize (Value.slice (some ⟨W.heap.size, 0, none⟩) 1 1) = x4 at *
            generalize W.alloc (.cells #[.slice (some ⟨g3, 0, none⟩) t d3] 22) = W2 at *
            exact R27.out W2 x1 x2 x3 x4 ⟨nW, m3, n4⟩
        · rintro W x1 x2 x4 ⟨hW, h4⟩
          refine wpAnyH_ready (rs := [14]) (by kernel_rfl) (by simp) ?_
          refine AllReadyH.cons rfl (fun Kq hKq => ?_) AllReadyH.nil
          · go_simp
            refine hKq.out _ _ (below_alL hW _) (fun hHeld => ?_)
            clear hKq Kq hHeld
            have n3 := Good.new W (.slice a3 t c3)
            have m4 := h4.alloc (.cells #[.slice a3 t c3] 22)
            have nW := below_alL hW (.cells #[.slice a3 t c3] 22)
            generalize (Value.slice (some ⟨W.heap.size, 0, none⟩) 1 1) = x3 at *
            generalize W.alloc (.cells #[.slice a3 t c3] 22) = W2 at *
            exact R27.out W2 x1 x2 x3 x4 ⟨nW, n3, m4⟩
        · rintro W x1 x2 x3 x4 ⟨hW, h3, h4⟩
          refine wpAnyH_ready (rs := [15]) (by kernel_rfl) (by simp) ?_
          refine AllReadyH.cons rfl (fun Kq hKq => ?_) AllReadyH.nil
          · obtain ⟨g, rfl, hc⟩ := h3
            go_simp
            refine (C3.out W g hW hc).mono ?_
            rintro e w9 ⟨rfl, hw9⟩
            have hw8 := hw9.symm
            subst hw8
            refine hKq.out _ _ hW (fun hHeld => ?_)
            clear hKq Kq hHeld
            refine wpAnyH_take (i := 16) (v := ?_) rfl (by kernel_rfl) (by kernel_rfl) (by kernel_rfl) (fun _ _ _ h => h) (Or.inl ⟨by rfl, ?_⟩) (by assumption) ?_
            rotate_left
            · intro wq hSq
              go_simp
              try with_reducible rfl
            simp only [List.getElem_toArray, List.getElem_cons_succ, List.getElem_cons_zero, Act.put, List.setIfInBounds_toArray, List.set_cons_zero, List.set_cons_succ]
            generalize (Value.slice (some ⟨g, 0, none⟩) 1 1) = x3
            exact R29.out W x1 x2 x3 x4 ⟨hW, h4⟩
        · rintro W x1 x2 x3 hW
          refine wpAnyH_ready (rs := [18]) (by kernel_rfl) (by simp) ?_
          refine AllReadyH.cons rfl (fun Kq hKq => ?_) AllReadyH.nil
          · go_simp
            refine hKq.out _ _ (below_alL hW _) (fun hHeld => ?_)
            clear hKq Kq hHeld
            have n4 := Good.new W (.slice (some ⟨g3, 0, none⟩) t d3)
            have nW := below_alL hW (.cells #[.slice (some ⟨g3, 0, none⟩) t d3] 22)
            generalize (Value.slice (some ⟨W.heap.size, 0, none⟩) 1 1) = x4 at *
            generalize W.alloc (.cells #[.slice (some ⟨g3, 0, none⟩) t d3] 22) = W2 at *
            exact R29.out W2 x1 x2 x3 x4 ⟨nW, n4⟩
        · rintro W x1 x2 x3 x4 ⟨hW, h4⟩
          refine wpAnyH_ready (rs := [19]) (by kernel_rfl) (by simp) ?_
          refine AllReadyH.cons rfl (fun Kq hKq => ?_) AllReadyH.nil
          · obtain ⟨g, rfl, hc⟩ := h4
            go_simp
            refine (C4.out W g hW hc).mono ?_
            rintro e w9 ⟨rfl, hw9⟩
            have hw8 := hw9.symm
            subst hw8
            refine hKq.out _ _ hW (fun hHeld => ?_)
            clear hKq Kq hHeld
            refine wpAnyH_take (i := 20) (v := ?_) rfl (by kernel_rfl) (by kernel_rfl) (by kernel_rfl) (fun _ _ _ h => h) (Or.inl ⟨by rfl, ?_⟩) (by assumption) ?_
            rotate_left
            · intro wq hSq
              go_simp
              try with_reducible rfl
            simp only [List.getElem_toArray, List.getElem_cons_succ, List.getElem_cons_zero, Act.put, List.setIfInBounds_toArray, List.set_cons_zero, List.set_cons_succ]
            refine wpAnyH_take (i := 21) (v := ?_) rfl (by kernel_rfl) (by kernel_rfl) (by kernel_rfl) (fun _ _ _ h => h) (Or.inl ⟨by rfl, ?_⟩) (by assumption) ?_
            rotate_left
            · intro wq hSq
              go_simp
              try with_reducible rfl
            simp only [List.getElem_toArray, List.getElem_cons_succ, List.getElem_cons_zero, Act.put, List.setIfInBounds_toArray, List.set_cons_zero, List.set_cons_succ]
            generalize (Value.slice (some ⟨g, 0, none⟩) 1 1) = x4
            exact R30.out W x1 x2 x3 x4 hW
        · rintro W x1 x2 x3 x4 hW
          refine wpAnyH_ready (rs := [22]) (by kernel_rfl) (by simp) ?_
          refine AllReadyH.cons rfl (fun Kq hKq => ?_) AllReadyH.nil
          go_simp
          refine (works_any W (HTU.out.below hW HTU.out.lt)).mono ?_
          rintro e w9 ⟨rfl, b9⟩
          have h9 : Below U.heap.size U w9 := hW.trans (b9.mono hW.size)
          refine hKq.out _ _ h9 (fun hHeld => ?_)
          clear hKq Kq hHeld
          refine wpAnyH_take (i := 23) (v := ?_) rfl (by kernel_rfl) (by kernel_rfl) (by kernel_rfl) (fun _ _ _ h => h) (Or.inl ⟨by rfl, ?_⟩) (by assumption) ?_
          rotate_left
          · intro wq hSq
            go_simp
            try with_reducible rfl
          simp only [List.getElem_toArray, List.getElem_cons_succ, List.getElem_cons_zero, Act.put, List.setIfInBounds_toArray, List.set_cons_zero, List.set_cons_succ]
          refine wpAnyH_take (i := 24) (v := ?_) rfl (by kernel_rfl) (by kernel_rfl) (by kernel_rfl) (fun _ _ _ h => h) (Or.inl ⟨by rfl, ?_⟩) (by assumption) ?_
          rotate_left
          · intro wq hSq
            go_simp
            try with_reducible rfl
          simp only [List.getElem_toArray, List.getElem_cons_succ, List.getElem_cons_zero, Act.put, List.setIfInBounds_toArray, List.set_cons_zero, List.set_cons_succ]
          refine wpAnyH_done (by kernel_rfl) ?_ _
          go_wp2
          go_ret
          exact ⟨rfl, HBU.out.trans (h9.mono HBU.out.size)⟩

end Go.Proofs.YtogemhoempkjoabDoor
