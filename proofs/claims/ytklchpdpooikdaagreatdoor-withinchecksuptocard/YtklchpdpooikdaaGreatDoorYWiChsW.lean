/-
  The statement WithinChecks: its walk.
-/
import Derived.Laws.StructEq
import Derived.Test.YtklchpdpooikdaaGreatDoorYWiRowW
import Derived.Test.YtklchpdpooikdaaGreatDoorYWiAll2ToWiMeets
namespace Go.Proofs.YtklchpdpooikdaaGreatDoor
open Go.RowKit Go.IntWalk Go.Shelf
attribute [local go_sem ↓] appOfH_of

def neSubT (x y : Value) : Sem Value := binOp .neq 36 x y
theorem neSubT_of (x y : Value) : binOp .neq 36 x y = neSubT x y := rfl
set_option maxRecDepth 100000 in
theorem neSubT_same (t : Int) (s : ByteArray) (w : World) : (neSubT (.agg #[.int .i64 t, .string s]) (.agg #[.int .i64 t, .string s])).run Tryz.prog w = .ok (.bool false) w := by
  have e1 : (t == t) = true := by simp
  have e2 : (s.toList == s.toList) = true := by simp
  unfold neSubT
  rw [run_neq_struct]
  go_simp
attribute [local go_sem ↓] neSubT_of

def neGenT (x y : Value) : Sem Value := binOp .neq 32 x y
theorem neGenT_of (x y : Value) : binOp .neq 32 x y = neGenT x y := rfl
set_option maxRecDepth 100000 in
theorem neGenT_same (t : Int) (s : ByteArray) (w : World) : (neGenT (.agg #[.int .i64 t, .string s]) (.agg #[.int .i64 t, .string s])).run Tryz.prog w = .ok (.bool false) w := by
  have e1 : (t == t) = true := by simp
  have e2 : (s.toList == s.toList) = true := by simp
  unfold neGenT
  rw [run_neq_struct]
  go_simp
attribute [local go_sem ↓] neGenT_of

structure Cel22 (b o b' o' : Nat) (t : Int) (s : ByteArray) (W : World) : Prop where
  s0 : W.cell? ⟨b, o, none⟩ = some (.int .i64 t)
  s1 : W.cell? ⟨b, o + 1, none⟩ = some (.string s)
  g0 : W.cell? ⟨b', o', none⟩ = some (.int .i64 t)
  g1 : W.cell? ⟨b', o' + 1, none⟩ = some (.string s)

theorem OwnT.rowIn {w : World} {base : Nat} {a : Option Addr} {n c : Nat} {xs : List (Int × ByteArray)} (h : OwnT w base (.slice a n c) xs) (hz : ∀ x ∈ xs, x.2.size ≤ 1048576) (hn : n ≤ 2097152) : RowIn w a n c xs := ⟨h.ats hz, fun e => by subst e; exact h.nils, hn, hz⟩
theorem OwnL.rowIn {w : World} {base : Nat} {a : Option Addr} {n c : Nat} {xs : List (Int × ByteArray)} (h : OwnL w base (.slice a n c) xs) (hz : ∀ x ∈ xs, x.2.size ≤ 1048576) (hn : n ≤ 2097152) : RowIn w a n c xs := ⟨h.ats hz, fun e => by subst e; exact h.nils, hn, hz⟩

theorem copyT (w : World) (ao : Option Addr) (n c : Nat) (xs : List (Int × ByteArray)) (h : RowIn w ao n c xs) : ∃ a' c' w', (appOfH #[22, 22] 22 #[.slice (some ⟨w.heap.size, 0, none⟩) 0 0, .slice ao n c]).run Tryz.prog (w.alloc (.cells #[] 36)) = .ok (.slice a' n c') w' ∧ OwnT w' w.heap.size (.slice a' n c') xs ∧ Below w.heap.size w w' := by
  have hB := nbelow w (.cells #[] 36)
  obtain ⟨a', c', w', h1, h2, h3⟩ := run_appT (w.alloc (.cells #[] 36)) 22 w.heap.size _ [] (OwnT.lit w w.heap.size (Nat.le_refl _)) ao n c xs (h.below hB).ats h.nil n (by simp) (by have := h.hn; omega) hB.size
  refine ⟨a', c', w', by rw [appOfH_of] at h1; exact h1, by simpa using h2, hB.grown h3 hB.size (fun j hj => ?_)⟩
  simp [Value.ownBlock] at hj
  omega

theorem copyL (w : World) (ao : Option Addr) (n c : Nat) (xs : List (Int × ByteArray)) (h : RowIn w ao n c xs) : ∃ a' c' w', (appOfH #[23, 23] 23 #[.slice (some ⟨w.heap.size, 0, none⟩) 0 0, .slice ao n c]).run Tryz.prog (w.alloc (.cells #[] 32)) = .ok (.slice a' n c') w' ∧ OwnL w' w.heap.size (.slice a' n c') xs ∧ Below w.heap.size w w' := by
  have hB := nbelow w (.cells #[] 32)
  obtain ⟨a', c', w', h1, h2, h3⟩ := run_appL (w.alloc (.cells #[] 32)) 23 w.heap.size _ [] (OwnL.lit w w.heap.size (Nat.le_refl _)) ao n c xs (h.below hB).ats h.nil n (by simp) (by have := h.hn; omega) hB.size
  refine ⟨a', c', w', by rw [appOfH_of] at h1; exact h1, by simpa using h2, hB.grown h3 hB.size (fun j hj => ?_)⟩
  simp [Value.ownBlock] at hj
  omega

set_option maxRecDepth 100000 in
set_option maxHeartbeats 8000000 in
theorem withinChecks_walk (a1 : Option Addr) (n1 c1 : Nat) (ps : List (Int × ByteArray)) (a2 : Option Addr) (n2 c2 : Nat) (es : List (Int × ByteArray)) (a3 : Option Addr) (n3 c3 : Nat) (ls : List (Int × ByteArray)) (hwf : ∀ x ∈ ls, (Lit.int .i64 x.1).wf = true) (m : Int) (w : World) (hm : ML w m) (hP : RowIn w a1 n1 c1 ps) (hE : RowIn w a2 n2 c2 es) (hL : RowIn w a3 n3 c3 ls) :
    Calls Tryz.prog 3 #[.slice a1 n1 c1, .slice a2 n2 c2, .slice a3 n3 c3] w fun e w' => e = .returned (.bool true) ∧ Below w.heap.size w w' := by
  obtain ⟨p1, q1, w1, run1, o1, B1⟩ := copyT w a1 n1 c1 ps hP
  obtain ⟨p2, q2, w2, run2, o2, B2⟩ := copyT w1 a2 n2 c2 es (hE.below B1)
  obtain ⟨p3, q3, w3, run3, o3, B3⟩ := copyL w2 a3 n3 c3 ls ((hL.below B1).below B2)
  have HB := hide ((B1.trans (B2.mono B1.size)).trans (B3.mono (B1.trans (B2.mono B1.size)).size))
  have HP := hide (hP.below HB.out)
  have HE := hide (hE.below HB.out)
  have HL := hide (hL.below HB.out)
  have HM := hide (hm.below HB.out)
  have KP := hide (((o1.below B2).below B3).rowIn hP.hz hP.hn)
  have KE := hide ((o2.below B3).rowIn hE.hz hE.hn)
  have KL := hide (o3.rowIn hL.hz hL.hn)
  have hl1 := hP.ats.hl
  have hl2 := hE.ats.hl
  have hl3 := hL.ats.hl
  have m1 := hP.hn
  have m2 := hE.hn
  have m3 := hL.hn
  have v1 := hP.ats.hcap
  have v2 := hE.ats.hcap
  have v3 := hL.ats.hcap
  have n1I : (n1 : Int) ≤ 2097152 := by omega
  have n2I : (n2 : Int) ≤ 2097152 := by omega
  have n3I : (n3 : Int) ≤ 2097152 := by omega
  have HW := hide hwf
  have R1 := hide (row_any p1 n1 q1 ps p2 n2 q2 es p3 n3 q3 ls hwf m w3 HM.out KP.out KE.out KL.out)
  have R2 := hide (fun W (h : Below w3.heap.size w3 W) => refRowW_any a1 n1 c1 ps a2 n2 c2 es a3 n3 c3 ls hwf m W (HM.out.below h) (HP.out.below h) (HE.out.below h) (HL.out.below h))
  clear hP hE hL hm hwf B1 B2 B3 o1 o2 o3
  generalize rowV ps es ls = V at *
  obtain ⟨V1, V2, V3⟩ := V
  simp only [] at R1 R2
  have z1 : (V1 != V1) = false := by simp
  have z2 : (V2 != V2) = false := by simp
  have z3 : (V3 != V3) = false := by simp
  go_enter Tryz.func3, Tryz.ntmps3
  go_wp2_with fail
  refine R1.out.mono ?_
  rintro e w4 ⟨rfl, B4⟩
  have HB4 := hide B4
  clear R1 B4 run1 run2 run3
  go_wp2_with fail
  refine (R2.out _ HB4.out).mono ?_
  rintro e w5 ⟨rfl, B5⟩
  have HB5 := hide (HB4.out.trans (B5.mono HB4.out.size))
  clear R2 B5 HB4
  have P5 := hide (HP.out.below HB5.out)
  have E5 := hide (HE.out.below HB5.out)
  have L5 := hide (HL.out.below HB5.out)
  have Q5 := hide (KP.out.below HB5.out)
  have X5 := hide (KE.out.below HB5.out)
  have Y5 := hide (KL.out.below HB5.out)
  have M5 := hide (HM.out.below HB5.out)
  have W5 := hide (HB.out.trans (HB5.out.mono HB.out.size))
  clear HP HE HL KP KE KL HM HB HB5
  go_wp2
  go_loopw [16] (fun i wr => ∃ k : Nat, i = .int .i64 k ∧ k ≤ n3 ∧ Below w5.heap.size w5 wr) (fun i _ => n3 - (intOf i).toNat)
  case atStart => exact ⟨0, rfl, Nat.zero_le _, Below.refl _ _⟩
  case round =>
    obtain ⟨k, rfl, hk, hB⟩ := hrel
    by_cases hlt : k < n3
    · have ltI : (k : Int) < (n3 : Int) := by omega
      obtain ⟨b, off, rfl, hcl⟩ := (L5.out.below hB).ats.hrd (by omega)
      obtain ⟨b', off', rfl, hcl'⟩ := (Y5.out.below hB).ats.hrd (by omega)
      obtain ⟨e0, e1⟩ := hcl k hlt
      obtain ⟨f0, f1⟩ := hcl' k hlt
      have hmem : ls.getD k (0, ByteArray.empty) ∈ ls := getD_mem (by omega)
      have hlen := L5.out.len hmem
      have hxw := HW.out _ hmem
      generalize ls.getD k (0, ByteArray.empty) = x at e0 e1 f0 f1 hmem hlen hxw
      obtain ⟨t, s⟩ := x
      simp only [] at e0 e1 f0 f1 hlen hxw
      have htx : tx s.data.toList = s := rfl
      have hc := hide (check_any p1 n1 q1 ps p2 n2 q2 es t hxw s.data.toList hlen m wr (M5.out.below hB) (Q5.out.below hB) (X5.out.below hB))
      have hd := hide (fun W (h : Below w5.heap.size w5 W) => refCheck_any a1 n1 c1 ps a2 n2 c2 es t s.data.toList hlen W (P5.out.below h) (E5.out.below h))
      rw [htx] at hc hd
      clear hcl hcl' hmem hlen hxw htx
      generalize chkV ps es t s.data.toList = C at *
      obtain ⟨C1, C2⟩ := C
      simp only [] at hc hd
      have q1' : (C1 != C1) = false := by simp
      have q2' : (C2 != C2) = false := by simp
      have HBw := hide hB
      clear hB
      go_wp2_with fail
      refine hc.out.mono ?_
      rintro e w6 ⟨rfl, B6⟩
      have HB6 := hide (HBw.out.trans (B6.mono HBw.out.size))
      have e0 := (B6.cell (lt_of_cell e0)).trans e0
      have e1 := (B6.cell (lt_of_cell e1)).trans e1
      have f0 := (B6.cell (lt_of_cell f0)).trans f0
      have f1 := (B6.cell (lt_of_cell f1)).trans f1
      clear hc B6 HBw
      go_wp2_with fail
      refine (hd.out _ HB6.out).mono ?_
      rintro e w7 ⟨rfl, B7⟩
      have B7d := B7.drew
      have HB7 := hide (HB6.out.trans (B7d.mono HB6.out.size))
      have hS0 : Cel22 b (off + k * 2) b' (off' + k * 2) t s w7.drew := ⟨(B7d.cell (lt_of_cell e0)).trans e0, (B7d.cell (lt_of_cell e1)).trans e1, (B7d.cell (lt_of_cell f0)).trans f0, (B7d.cell (lt_of_cell f1)).trans f1⟩
      clear hd B7 B7d HB6 e0 e1 f0 f1
      go_wp2_with fail
      refine wp_region_held_drew (S := Cel22 b (off + k * 2) b' (off' + k * 2) t s) (by kernel_rfl) hS0 (fun hS => ?_)
      clear hS0
      generalize w7.drew = X0 at *
      refine wpAnyH_take (i := 0) (v := ?_) rfl (by kernel_rfl) (by kernel_rfl) (by kernel_rfl) (fun _ _ _ h => h) (Or.inl ⟨by rfl, ?_⟩) (by assumption) ?_
      rotate_left
      · intro wq hSq
        obtain ⟨r0, r1, r2, r3⟩ := hSq
        go_simp
        try with_reducible rfl
      simp only [List.getElem_toArray, List.getElem_cons_zero, Act.put, List.setIfInBounds_toArray, List.set_cons_zero, List.set_cons_succ]
      refine wpAnyH_take (i := 1) (v := ?_) rfl (by kernel_rfl) (by kernel_rfl) (by kernel_rfl) (fun _ _ _ h => h) (Or.inl ⟨by rfl, ?_⟩) (by assumption) ?_
      rotate_left
      · intro wq hSq
        obtain ⟨r0, r1, r2, r3⟩ := hSq
        have hns := neSubT_same t s wq
        have hng := neGenT_same t s wq
        go_simp
        try with_reducible rfl
      simp only [List.getElem_toArray, List.getElem_cons_succ, List.getElem_cons_zero, Act.put, List.setIfInBounds_toArray, List.set_cons_zero, List.set_cons_succ]
      refine wpAnyH_take (i := 2) (v := ?_) rfl (by kernel_rfl) (by kernel_rfl) (by kernel_rfl) (fun _ _ _ h => h) (Or.inl ⟨by rfl, ?_⟩) (by assumption) ?_
      rotate_left
      · intro wq hSq
        obtain ⟨r0, r1, r2, r3⟩ := hSq
        have hns := neSubT_same t s wq
        have hng := neGenT_same t s wq
        go_simp
        try with_reducible rfl
      simp only [List.getElem_toArray, List.getElem_cons_succ, List.getElem_cons_zero, Act.put, List.setIfInBounds_toArray, List.set_cons_zero, List.set_cons_succ]
      refine wpAnyH_take (i := 3) (v := ?_) rfl (by kernel_rfl) (by kernel_rfl) (by kernel_rfl) (fun _ _ _ h => h) (Or.inl ⟨by rfl, ?_⟩) (by assumption) ?_
      rotate_left
      · intro wq hSq
        obtain ⟨r0, r1, r2, r3⟩ := hSq
        have hns := neSubT_same t s wq
        have hng := neGenT_same t s wq
        go_simp
        try with_reducible rfl
      simp only [List.getElem_toArray, List.getElem_cons_succ, List.getElem_cons_zero, Act.put, List.setIfInBounds_toArray, List.set_cons_zero, List.set_cons_succ]
      refine wpAnyH_take (i := 4) (v := ?_) rfl (by kernel_rfl) (by kernel_rfl) (by kernel_rfl) (fun _ _ _ h => h) (Or.inl ⟨by rfl, ?_⟩) (by assumption) ?_
      rotate_left
      · intro wq hSq
        obtain ⟨r0, r1, r2, r3⟩ := hSq
        have hns := neSubT_same t s wq
        have hng := neGenT_same t s wq
        go_simp
        try with_reducible rfl
      simp only [List.getElem_toArray, List.getElem_cons_succ, List.getElem_cons_zero, Act.put, List.setIfInBounds_toArray, List.set_cons_zero, List.set_cons_succ]
      refine wpAnyH_take (i := 5) (v := ?_) rfl (by kernel_rfl) (by kernel_rfl) (by kernel_rfl) (fun _ _ _ h => h) (Or.inl ⟨by rfl, ?_⟩) (by assumption) ?_
      rotate_left
      · intro wq hSq
        obtain ⟨r0, r1, r2, r3⟩ := hSq
        have hns := neSubT_same t s wq
        have hng := neGenT_same t s wq
        go_simp
        try with_reducible rfl
      simp only [List.getElem_toArray, List.getElem_cons_succ, List.getElem_cons_zero, Act.put, List.setIfInBounds_toArray, List.set_cons_zero, List.set_cons_succ]
      refine wpAnyH_take (i := 6) (v := ?_) rfl (by kernel_rfl) (by kernel_rfl) (by kernel_rfl) (fun _ _ _ h => h) (Or.inl ⟨by rfl, ?_⟩) (by assumption) ?_
      rotate_left
      · intro wq hSq
        obtain ⟨r0, r1, r2, r3⟩ := hSq
        have hns := neSubT_same t s wq
        have hng := neGenT_same t s wq
        go_simp
        try with_reducible rfl
      simp only [List.getElem_toArray, List.getElem_cons_succ, List.getElem_cons_zero, Act.put, List.setIfInBounds_toArray, List.set_cons_zero, List.set_cons_succ]
      refine wpAnyH_take (i := 7) (v := ?_) rfl (by kernel_rfl) (by kernel_rfl) (by kernel_rfl) (fun _ _ _ h => h) (Or.inl ⟨by rfl, ?_⟩) (by assumption) ?_
      rotate_left
      · intro wq hSq
        obtain ⟨r0, r1, r2, r3⟩ := hSq
        have hns := neSubT_same t s wq
        have hng := neGenT_same t s wq
        go_simp
        try with_reducible rfl
      simp only [List.getElem_toArray, List.getElem_cons_succ, List.getElem_cons_zero, Act.put, List.setIfInBounds_toArray, List.set_cons_zero, List.set_cons_succ]
      refine wpAnyH_take (i := 8) (v := ?_) rfl (by kernel_rfl) (by kernel_rfl) (by kernel_rfl) (fun _ _ _ h => h) (Or.inl ⟨by rfl, ?_⟩) (by assumption) ?_
      rotate_left
      · intro wq hSq
        obtain ⟨r0, r1, r2, r3⟩ := hSq
        have hns := neSubT_same t s wq
        have hng := neGenT_same t s wq
        go_simp
        try with_reducible rfl
      simp only [List.getElem_toArray, List.getElem_cons_succ, List.getElem_cons_zero, Act.put, List.setIfInBounds_toArray, List.set_cons_zero, List.set_cons_succ]
      refine wpAnyH_take (i := 9) (v := ?_) rfl (by kernel_rfl) (by kernel_rfl) (by kernel_rfl) (fun _ _ _ h => h) (Or.inl ⟨by rfl, ?_⟩) (by assumption) ?_
      rotate_left
      · intro wq hSq
        obtain ⟨r0, r1, r2, r3⟩ := hSq
        have hns := neSubT_same t s wq
        have hng := neGenT_same t s wq
        go_simp
        try with_reducible rfl
      simp only [List.getElem_toArray, List.getElem_cons_succ, List.getElem_cons_zero, Act.put, List.setIfInBounds_toArray, List.set_cons_zero, List.set_cons_succ]
      refine wpAnyH_take (i := 10) (v := ?_) rfl (by kernel_rfl) (by kernel_rfl) (by kernel_rfl) (fun _ _ _ h => h) (Or.inl ⟨by rfl, ?_⟩) (by assumption) ?_
      rotate_left
      · intro wq hSq
        obtain ⟨r0, r1, r2, r3⟩ := hSq
        have hns := neSubT_same t s wq
        have hng := neGenT_same t s wq
        go_simp
        try with_reducible rfl
      simp only [List.getElem_toArray, List.getElem_cons_succ, List.getElem_cons_zero, Act.put, List.setIfInBounds_toArray, List.set_cons_zero, List.set_cons_succ]
      refine wpAnyH_take (i := 11) (v := ?_) rfl (by kernel_rfl) (by kernel_rfl) (by kernel_rfl) (fun _ _ _ h => h) (Or.inl ⟨by rfl, ?_⟩) (by assumption) ?_
      rotate_left
      · intro wq hSq
        obtain ⟨r0, r1, r2, r3⟩ := hSq
        have hns := neSubT_same t s wq
        have hng := neGenT_same t s wq
        go_simp
        try with_reducible rfl
      simp only [List.getElem_toArray, List.getElem_cons_succ, List.getElem_cons_zero, Act.put, List.setIfInBounds_toArray, List.set_cons_zero, List.set_cons_succ]
      refine wpAnyH_take (i := 12) (v := ?_) rfl (by kernel_rfl) (by kernel_rfl) (by kernel_rfl) (fun _ _ _ h => h) (Or.inl ⟨by rfl, ?_⟩) (by assumption) ?_
      rotate_left
      · intro wq hSq
        obtain ⟨r0, r1, r2, r3⟩ := hSq
        have hns := neSubT_same t s wq
        have hng := neGenT_same t s wq
        go_simp
        try with_reducible rfl
      simp only [List.getElem_toArray, List.getElem_cons_succ, List.getElem_cons_zero, Act.put, List.setIfInBounds_toArray, List.set_cons_zero, List.set_cons_succ]
      refine wpAnyH_take (i := 13) (v := ?_) rfl (by kernel_rfl) (by kernel_rfl) (by kernel_rfl) (fun _ _ _ h => h) (Or.inl ⟨by rfl, ?_⟩) (by assumption) ?_
      rotate_left
      · intro wq hSq
        obtain ⟨r0, r1, r2, r3⟩ := hSq
        have hns := neSubT_same t s wq
        have hng := neGenT_same t s wq
        go_simp
        try with_reducible rfl
      simp only [List.getElem_toArray, List.getElem_cons_succ, List.getElem_cons_zero, Act.put, List.setIfInBounds_toArray, List.set_cons_zero, List.set_cons_succ]
      refine wpAnyH_take (i := 14) (v := ?_) rfl (by kernel_rfl) (by kernel_rfl) (by kernel_rfl) (fun _ _ _ h => h) (Or.inl ⟨by rfl, ?_⟩) (by assumption) ?_
      rotate_left
      · intro wq hSq
        obtain ⟨r0, r1, r2, r3⟩ := hSq
        have hns := neSubT_same t s wq
        have hng := neGenT_same t s wq
        go_simp
        try with_reducible rfl
      simp only [List.getElem_toArray, List.getElem_cons_succ, List.getElem_cons_zero, Act.put, List.setIfInBounds_toArray, List.set_cons_zero, List.set_cons_succ]
      refine wpAnyH_take (i := 15) (v := ?_) rfl (by kernel_rfl) (by kernel_rfl) (by kernel_rfl) (fun _ _ _ h => h) (Or.inl ⟨by rfl, ?_⟩) (by assumption) ?_
      rotate_left
      · intro wq hSq
        obtain ⟨r0, r1, r2, r3⟩ := hSq
        have hns := neSubT_same t s wq
        have hng := neGenT_same t s wq
        go_simp
        try with_reducible rfl
      simp only [List.getElem_toArray, List.getElem_cons_succ, List.getElem_cons_zero, Act.put, List.setIfInBounds_toArray, List.set_cons_zero, List.set_cons_succ]
      refine wpAnyH_take (i := 16) (v := ?_) rfl (by kernel_rfl) (by kernel_rfl) (by kernel_rfl) (fun _ _ _ h => h) (Or.inl ⟨by rfl, ?_⟩) (by assumption) ?_
      rotate_left
      · intro wq hSq
        obtain ⟨r0, r1, r2, r3⟩ := hSq
        have hns := neSubT_same t s wq
        have hng := neGenT_same t s wq
        go_simp
        try with_reducible rfl
      simp only [List.getElem_toArray, List.getElem_cons_succ, List.getElem_cons_zero, Act.put, List.setIfInBounds_toArray, List.set_cons_zero, List.set_cons_succ]
      refine wpAnyH_take (i := 17) (v := ?_) rfl (by kernel_rfl) (by kernel_rfl) (by kernel_rfl) (fun _ _ _ h => h) (Or.inl ⟨by rfl, ?_⟩) (by assumption) ?_
      rotate_left
      · intro wq hSq
        obtain ⟨r0, r1, r2, r3⟩ := hSq
        have hns := neSubT_same t s wq
        have hng := neGenT_same t s wq
        go_simp
        try with_reducible rfl
      simp only [List.getElem_toArray, List.getElem_cons_succ, List.getElem_cons_zero, Act.put, List.setIfInBounds_toArray, List.set_cons_zero, List.set_cons_succ]
      refine wpAnyH_take (i := 18) (v := ?_) rfl (by kernel_rfl) (by kernel_rfl) (by kernel_rfl) (fun _ _ _ h => h) (Or.inl ⟨by rfl, ?_⟩) (by assumption) ?_
      rotate_left
      · intro wq hSq
        obtain ⟨r0, r1, r2, r3⟩ := hSq
        have hns := neSubT_same t s wq
        have hng := neGenT_same t s wq
        go_simp
        try with_reducible rfl
      simp only [List.getElem_toArray, List.getElem_cons_succ, List.getElem_cons_zero, Act.put, List.setIfInBounds_toArray, List.set_cons_zero, List.set_cons_succ]
      refine wpAnyH_done (by kernel_rfl) ?_ _
      clear hS
      go_wp2
      go_roundw
      case rel => exact ⟨k + 1, by go_num, by omega, HB7.out⟩
      case measure => simp [intOf]; omega
    · obtain rfl : k = n3 := by omega
      have nI : ¬ ((k : Int) < (k : Int)) := by omega
      obtain ⟨wz, rfl⟩ : ∃ wz : World, wz = wr := ⟨_, rfl⟩
      have P6 := hide (P5.out.below hB)
      have E6 := hide (E5.out.below hB)
      have Q6 := hide (Q5.out.below hB)
      have X6 := hide (X5.out.below hB)
      have M6 := hide (M5.out.below hB)
      have W6 := hide (W5.out.trans (hB.mono W5.out.size))
      clear P5 E5 Q5 X5 L5 Y5 M5 W5 hB z1 z2 z3
      go_wp2

      go_loopw [21] (fun i wr => ∃ k : Nat, i = .int .i64 k ∧ k ≤ n1 ∧ Below wz.heap.size wz wr) (fun i _ => n1 - (intOf i).toNat)
      case atStart => exact ⟨0, rfl, Nat.zero_le _, Below.refl _ _⟩
      case round =>
        obtain ⟨k, rfl, hk, hB⟩ := hrel
        by_cases hlt : k < n1
        · have ltI : (k : Int) < (n1 : Int) := by omega
          have hBd := hide hB.drew
          obtain ⟨b, off, rfl, hcl⟩ := (Q6.out.below hBd.out).ats.hrd (by omega)
          obtain ⟨b', off', rfl, hcl'⟩ := (P6.out.below hBd.out).ats.hrd (by omega)
          obtain ⟨e0, e1⟩ := hcl k hlt
          obtain ⟨f0, f1⟩ := hcl' k hlt
          generalize (ps).getD k (0, ByteArray.empty) = x at e0 e1 f0 f1
          obtain ⟨t, s⟩ := x
          simp only [] at e0 e1 f0 f1
          have hS0 : Cel22 b (off + k * 2) b' (off' + k * 2) t s wr.drew := ⟨e0, e1, f0, f1⟩
          clear hcl hcl' e0 e1 f0 f1
          go_wp2
          refine wp_region_held_drew (S := Cel22 b (off + k * 2) b' (off' + k * 2) t s) (by kernel_rfl) hS0 (fun hS => ?_)
          clear hS0
          generalize wr.drew = X0 at *
          refine wpAnyH_take (i := 0) (v := ?_) rfl (by kernel_rfl) (by kernel_rfl) (by kernel_rfl) (fun _ _ _ h => h) (Or.inl ⟨by rfl, ?_⟩) (by assumption) ?_
          rotate_left
          · intro wq hSq
            obtain ⟨r0, r1, r2, r3⟩ := hSq
            go_simp
            try with_reducible rfl
          simp only [List.getElem_toArray, List.getElem_cons_zero, Act.put, List.setIfInBounds_toArray, List.set_cons_zero, List.set_cons_succ]
          refine wpAnyH_take (i := 1) (v := ?_) rfl (by kernel_rfl) (by kernel_rfl) (by kernel_rfl) (fun _ _ _ h => h) (Or.inl ⟨by rfl, ?_⟩) (by assumption) ?_
          rotate_left
          · intro wq hSq
            obtain ⟨r0, r1, r2, r3⟩ := hSq
            have hns := neSubT_same t s wq
            have hng := neGenT_same t s wq
            go_simp
            try with_reducible rfl
          simp only [List.getElem_toArray, List.getElem_cons_succ, List.getElem_cons_zero, Act.put, List.setIfInBounds_toArray, List.set_cons_zero, List.set_cons_succ]
          refine wpAnyH_take (i := 2) (v := ?_) rfl (by kernel_rfl) (by kernel_rfl) (by kernel_rfl) (fun _ _ _ h => h) (Or.inl ⟨by rfl, ?_⟩) (by assumption) ?_
          rotate_left
          · intro wq hSq
            obtain ⟨r0, r1, r2, r3⟩ := hSq
            have hns := neSubT_same t s wq
            have hng := neGenT_same t s wq
            go_simp
            try with_reducible rfl
          simp only [List.getElem_toArray, List.getElem_cons_succ, List.getElem_cons_zero, Act.put, List.setIfInBounds_toArray, List.set_cons_zero, List.set_cons_succ]
          refine wpAnyH_take (i := 3) (v := ?_) rfl (by kernel_rfl) (by kernel_rfl) (by kernel_rfl) (fun _ _ _ h => h) (Or.inl ⟨by rfl, ?_⟩) (by assumption) ?_
          rotate_left
          · intro wq hSq
            obtain ⟨r0, r1, r2, r3⟩ := hSq
            have hns := neSubT_same t s wq
            have hng := neGenT_same t s wq
            go_simp
            try with_reducible rfl
          simp only [List.getElem_toArray, List.getElem_cons_succ, List.getElem_cons_zero, Act.put, List.setIfInBounds_toArray, List.set_cons_zero, List.set_cons_succ]
          refine wpAnyH_take (i := 4) (v := ?_) rfl (by kernel_rfl) (by kernel_rfl) (by kernel_rfl) (fun _ _ _ h => h) (Or.inl ⟨by rfl, ?_⟩) (by assumption) ?_
          rotate_left
          · intro wq hSq
            obtain ⟨r0, r1, r2, r3⟩ := hSq
            have hns := neSubT_same t s wq
            have hng := neGenT_same t s wq
            go_simp
            try with_reducible rfl
          simp only [List.getElem_toArray, List.getElem_cons_succ, List.getElem_cons_zero, Act.put, List.setIfInBounds_toArray, List.set_cons_zero, List.set_cons_succ]
          refine wpAnyH_take (i := 5) (v := ?_) rfl (by kernel_rfl) (by kernel_rfl) (by kernel_rfl) (fun _ _ _ h => h) (Or.inl ⟨by rfl, ?_⟩) (by assumption) ?_
          rotate_left
          · intro wq hSq
            obtain ⟨r0, r1, r2, r3⟩ := hSq
            have hns := neSubT_same t s wq
            have hng := neGenT_same t s wq
            go_simp
            try with_reducible rfl
          simp only [List.getElem_toArray, List.getElem_cons_succ, List.getElem_cons_zero, Act.put, List.setIfInBounds_toArray, List.set_cons_zero, List.set_cons_succ]
          refine wpAnyH_take (i := 6) (v := ?_) rfl (by kernel_rfl) (by kernel_rfl) (by kernel_rfl) (fun _ _ _ h => h) (Or.inl ⟨by rfl, ?_⟩) (by assumption) ?_
          rotate_left
          · intro wq hSq
            obtain ⟨r0, r1, r2, r3⟩ := hSq
            have hns := neSubT_same t s wq
            have hng := neGenT_same t s wq
            go_simp
            try with_reducible rfl
          simp only [List.getElem_toArray, List.getElem_cons_succ, List.getElem_cons_zero, Act.put, List.setIfInBounds_toArray, List.set_cons_zero, List.set_cons_succ]
          refine wpAnyH_take (i := 7) (v := ?_) rfl (by kernel_rfl) (by kernel_rfl) (by kernel_rfl) (fun _ _ _ h => h) (Or.inl ⟨by rfl, ?_⟩) (by assumption) ?_
          rotate_left
          · intro wq hSq
            obtain ⟨r0, r1, r2, r3⟩ := hSq
            have hns := neSubT_same t s wq
            have hng := neGenT_same t s wq
            go_simp
            try with_reducible rfl
          simp only [List.getElem_toArray, List.getElem_cons_succ, List.getElem_cons_zero, Act.put, List.setIfInBounds_toArray, List.set_cons_zero, List.set_cons_succ]
          refine wpAnyH_take (i := 8) (v := ?_) rfl (by kernel_rfl) (by kernel_rfl) (by kernel_rfl) (fun _ _ _ h => h) (Or.inl ⟨by rfl, ?_⟩) (by assumption) ?_
          rotate_left
          · intro wq hSq
            obtain ⟨r0, r1, r2, r3⟩ := hSq
            have hns := neSubT_same t s wq
            have hng := neGenT_same t s wq
            go_simp
            try with_reducible rfl
          simp only [List.getElem_toArray, List.getElem_cons_succ, List.getElem_cons_zero, Act.put, List.setIfInBounds_toArray, List.set_cons_zero, List.set_cons_succ]
          refine wpAnyH_done (by kernel_rfl) ?_ _
          clear hS
          go_wp2
          go_roundw
          case rel => exact ⟨k + 1, by go_num, by omega, hBd.out⟩
          case measure => simp [intOf]; omega
        · obtain rfl : k = n1 := by omega
          have nI : ¬ ((k : Int) < (k : Int)) := by omega
          have HBz2 := hide hB
          obtain ⟨wy, rfl⟩ : ∃ wy : World, wy = wr := ⟨_, rfl⟩
          have E7 := hide (E6.out.below HBz2.out)
          have X7 := hide (X6.out.below HBz2.out)
          have M7 := hide (M6.out.below HBz2.out)
          have W7 := hide (W6.out.trans (HBz2.out.mono W6.out.size))
          clear P6 E6 Q6 X6 M6 W6 HBz2 hB
          go_wp2

          go_loopw [22] (fun i wr => ∃ k : Nat, i = .int .i64 k ∧ k ≤ n2 ∧ Below wy.heap.size wy wr) (fun i _ => n2 - (intOf i).toNat)
          case atStart => exact ⟨0, rfl, Nat.zero_le _, Below.refl _ _⟩
          case round =>
            obtain ⟨k, rfl, hk, hB⟩ := hrel
            by_cases hlt : k < n2
            · have ltI : (k : Int) < (n2 : Int) := by omega
              have hBd := hide hB.drew
              obtain ⟨b, off, rfl, hcl⟩ := (X7.out.below hBd.out).ats.hrd (by omega)
              obtain ⟨b', off', rfl, hcl'⟩ := (E7.out.below hBd.out).ats.hrd (by omega)
              obtain ⟨e0, e1⟩ := hcl k hlt
              obtain ⟨f0, f1⟩ := hcl' k hlt
              generalize (es).getD k (0, ByteArray.empty) = x at e0 e1 f0 f1
              obtain ⟨t, s⟩ := x
              simp only [] at e0 e1 f0 f1
              have hS0 : Cel22 b (off + k * 2) b' (off' + k * 2) t s wr.drew := ⟨e0, e1, f0, f1⟩
              clear hcl hcl' e0 e1 f0 f1
              go_wp2
              refine wp_region_held_drew (S := Cel22 b (off + k * 2) b' (off' + k * 2) t s) (by kernel_rfl) hS0 (fun hS => ?_)
              clear hS0
              generalize wr.drew = X0 at *
              refine wpAnyH_take (i := 0) (v := ?_) rfl (by kernel_rfl) (by kernel_rfl) (by kernel_rfl) (fun _ _ _ h => h) (Or.inl ⟨by rfl, ?_⟩) (by assumption) ?_
              rotate_left
              · intro wq hSq
                obtain ⟨r0, r1, r2, r3⟩ := hSq
                go_simp
                try with_reducible rfl
              simp only [List.getElem_toArray, List.getElem_cons_zero, Act.put, List.setIfInBounds_toArray, List.set_cons_zero, List.set_cons_succ]
              refine wpAnyH_take (i := 1) (v := ?_) rfl (by kernel_rfl) (by kernel_rfl) (by kernel_rfl) (fun _ _ _ h => h) (Or.inl ⟨by rfl, ?_⟩) (by assumption) ?_
              rotate_left
              · intro wq hSq
                obtain ⟨r0, r1, r2, r3⟩ := hSq
                have hns := neSubT_same t s wq
                have hng := neGenT_same t s wq
                go_simp
                try with_reducible rfl
              simp only [List.getElem_toArray, List.getElem_cons_succ, List.getElem_cons_zero, Act.put, List.setIfInBounds_toArray, List.set_cons_zero, List.set_cons_succ]
              refine wpAnyH_take (i := 2) (v := ?_) rfl (by kernel_rfl) (by kernel_rfl) (by kernel_rfl) (fun _ _ _ h => h) (Or.inl ⟨by rfl, ?_⟩) (by assumption) ?_
              rotate_left
              · intro wq hSq
                obtain ⟨r0, r1, r2, r3⟩ := hSq
                have hns := neSubT_same t s wq
                have hng := neGenT_same t s wq
                go_simp
                try with_reducible rfl
              simp only [List.getElem_toArray, List.getElem_cons_succ, List.getElem_cons_zero, Act.put, List.setIfInBounds_toArray, List.set_cons_zero, List.set_cons_succ]
              refine wpAnyH_take (i := 3) (v := ?_) rfl (by kernel_rfl) (by kernel_rfl) (by kernel_rfl) (fun _ _ _ h => h) (Or.inl ⟨by rfl, ?_⟩) (by assumption) ?_
              rotate_left
              · intro wq hSq
                obtain ⟨r0, r1, r2, r3⟩ := hSq
                have hns := neSubT_same t s wq
                have hng := neGenT_same t s wq
                go_simp
                try with_reducible rfl
              simp only [List.getElem_toArray, List.getElem_cons_succ, List.getElem_cons_zero, Act.put, List.setIfInBounds_toArray, List.set_cons_zero, List.set_cons_succ]
              refine wpAnyH_take (i := 4) (v := ?_) rfl (by kernel_rfl) (by kernel_rfl) (by kernel_rfl) (fun _ _ _ h => h) (Or.inl ⟨by rfl, ?_⟩) (by assumption) ?_
              rotate_left
              · intro wq hSq
                obtain ⟨r0, r1, r2, r3⟩ := hSq
                have hns := neSubT_same t s wq
                have hng := neGenT_same t s wq
                go_simp
                try with_reducible rfl
              simp only [List.getElem_toArray, List.getElem_cons_succ, List.getElem_cons_zero, Act.put, List.setIfInBounds_toArray, List.set_cons_zero, List.set_cons_succ]
              refine wpAnyH_take (i := 5) (v := ?_) rfl (by kernel_rfl) (by kernel_rfl) (by kernel_rfl) (fun _ _ _ h => h) (Or.inl ⟨by rfl, ?_⟩) (by assumption) ?_
              rotate_left
              · intro wq hSq
                obtain ⟨r0, r1, r2, r3⟩ := hSq
                have hns := neSubT_same t s wq
                have hng := neGenT_same t s wq
                go_simp
                try with_reducible rfl
              simp only [List.getElem_toArray, List.getElem_cons_succ, List.getElem_cons_zero, Act.put, List.setIfInBounds_toArray, List.set_cons_zero, List.set_cons_succ]
              refine wpAnyH_take (i := 6) (v := ?_) rfl (by kernel_rfl) (by kernel_rfl) (by kernel_rfl) (fun _ _ _ h => h) (Or.inl ⟨by rfl, ?_⟩) (by assumption) ?_
              rotate_left
              · intro wq hSq
                obtain ⟨r0, r1, r2, r3⟩ := hSq
                have hns := neSubT_same t s wq
                have hng := neGenT_same t s wq
                go_simp
                try with_reducible rfl
              simp only [List.getElem_toArray, List.getElem_cons_succ, List.getElem_cons_zero, Act.put, List.setIfInBounds_toArray, List.set_cons_zero, List.set_cons_succ]
              refine wpAnyH_take (i := 7) (v := ?_) rfl (by kernel_rfl) (by kernel_rfl) (by kernel_rfl) (fun _ _ _ h => h) (Or.inl ⟨by rfl, ?_⟩) (by assumption) ?_
              rotate_left
              · intro wq hSq
                obtain ⟨r0, r1, r2, r3⟩ := hSq
                have hns := neSubT_same t s wq
                have hng := neGenT_same t s wq
                go_simp
                try with_reducible rfl
              simp only [List.getElem_toArray, List.getElem_cons_succ, List.getElem_cons_zero, Act.put, List.setIfInBounds_toArray, List.set_cons_zero, List.set_cons_succ]
              refine wpAnyH_take (i := 8) (v := ?_) rfl (by kernel_rfl) (by kernel_rfl) (by kernel_rfl) (fun _ _ _ h => h) (Or.inl ⟨by rfl, ?_⟩) (by assumption) ?_
              rotate_left
              · intro wq hSq
                obtain ⟨r0, r1, r2, r3⟩ := hSq
                have hns := neSubT_same t s wq
                have hng := neGenT_same t s wq
                go_simp
                try with_reducible rfl
              simp only [List.getElem_toArray, List.getElem_cons_succ, List.getElem_cons_zero, Act.put, List.setIfInBounds_toArray, List.set_cons_zero, List.set_cons_succ]
              refine wpAnyH_done (by kernel_rfl) ?_ _
              clear hS
              go_wp2
              go_roundw
              case rel => exact ⟨k + 1, by go_num, by omega, hBd.out⟩
              case measure => simp [intOf]; omega
            · obtain rfl : k = n2 := by omega
              have nI : ¬ ((k : Int) < (k : Int)) := by omega
              have HBz2 := hide hB
              have d9 := hide (works14_kp wr m wr (Kp.refl (M7.out.below hB)))
              have W9 := hide (W7.out.trans (hB.mono W7.out.size))
              go_wp2_with fail
              refine d9.out.mono ?_
              rintro e w9 ⟨rfl, K9⟩
              go_wp2
              go_ret
              exact ⟨rfl, W9.out.trans (K9.1.mono W9.out.size)⟩

end Go.Proofs.YtklchpdpooikdaaGreatDoor
