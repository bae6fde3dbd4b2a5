/-
  within.Below: is a host's name below another one?
  host.rules: the map of the kinds' rules.
-/
import Derived.Test.YtcbcdfdicefkoaaGreatDoorXHoMmToWiM
import Derived.Maps.Keyed
import Derived.ChangeMaps5
import Derived.Carry
namespace Go.Proofs.YtcbcdfdicefkoaaGreatDoor
open Go.RowKit Go.Shelf Go.IntWalk

theorem tx_catW (a b : List UInt8) : tx a ++ tx b = tx (a ++ b) := by
  apply ByteArray.ext
  apply Array.ext'
  simp [tx]
theorem dot_cat (a : List UInt8) : (⟨#[46]⟩ : ByteArray) ++ tx a = tx (46 :: a) := tx_catW [46] a

/-- What stood in the world w stands, and so does the table that strings.Cut reads. -/
def Kp (w : World) (m : Int) (W : World) : Prop := Below w.heap.size w W ∧ ML W m
theorem Kp.next {w W W' : World} {m : Int} (h : Kp w m W) (hb : Below W.heap.size W W') : Kp w m W' := ⟨h.1.trans (hb.mono h.1.size), h.2.below hb⟩
theorem Kp.refl {w : World} {m : Int} (h : ML w m) : Kp w m w := ⟨Below.refl _ _, h⟩

theorem lower_any (a : List UInt8) (ha : a.length ≤ 1048576) (xa : dnsL a = true) (w : World) :
    Calls Tryz.prog 27 #[.string (tx (46 :: a))] w fun e w' => e = .returned (.string (tx (smallL (46 :: a)))) ∧ Below w.heap.size w w' := by
  have h := Tryz.strings_ToLower_ascii (tx (46 :: a)) w (by rw [tx_size]; simp; omega) (fun _ x hx => by
    have hm : x ∈ 46 :: a := List.mem_of_getElem? hx
    rcases List.mem_cons.1 hm with rfl | hm
    · decide
    · exact dns_ascii xa x hm)
  rw [tx_list, lower_smallL] at h
  exact h

set_option maxRecDepth 100000 in
set_option maxHeartbeats 2000000 in
theorem below_kp (w0 : World) (a b : List UInt8) (ha : a.length ≤ 1048576) (hb : b.length ≤ 1048576) (m : Int) (w : World) (hm : Kp w0 m w) :
    Calls Tryz.prog 8 #[.string (tx a), .string (tx b)] w fun e w' => e = .returned (.bool (belB a b)) ∧ Kp w0 m w' := by
  have hM : Hid (belB a b = (dnsL a && (dnsL b && Lib.hasSuffix (smallL (46 :: a)) (smallL (46 :: b))))) := rfl
  have d1 : Hid (∀ W, Kp w0 m W → Calls Tryz.prog 25 #[.string (tx a)] W fun e W' => e = .returned (.bool (dnsL a)) ∧ Kp w0 m W') := fun W h => (dns_any a ha m W h.2).mono fun e W' ⟨h1, h2⟩ => ⟨h1, h.next h2⟩
  have d2 : Hid (∀ W, Kp w0 m W → Calls Tryz.prog 25 #[.string (tx b)] W fun e W' => e = .returned (.bool (dnsL b)) ∧ Kp w0 m W') := fun W h => (dns_any b hb m W h.2).mono fun e W' ⟨h1, h2⟩ => ⟨h1, h.next h2⟩
  have l1 : Hid (dnsL a = true → ∀ W, Kp w0 m W → Calls Tryz.prog 27 #[.string (⟨#[46]⟩ ++ tx a)] W fun e W' => e = .returned (.string (tx (smallL (46 :: a)))) ∧ Kp w0 m W') := fun h0 W h => by rw [dot_cat]; exact (lower_any a ha h0 W).mono fun e W' ⟨h1, h2⟩ => ⟨h1, h.next h2⟩
  have l2 : Hid (dnsL b = true → ∀ W, Kp w0 m W → Calls Tryz.prog 27 #[.string (⟨#[46]⟩ ++ tx b)] W fun e W' => e = .returned (.string (tx (smallL (46 :: b)))) ∧ Kp w0 m W') := fun h0 W h => by rw [dot_cat]; exact (lower_any b hb h0 W).mono fun e W' ⟨h1, h2⟩ => ⟨h1, h.next h2⟩
  have s1 : Hid (∀ W, Calls Tryz.prog 26 #[.string (tx (smallL (46 :: a))), .string (tx (smallL (46 :: b)))] W fun e W' => e = .returned (.bool (Lib.hasSuffix (smallL (46 :: a)) (smallL (46 :: b)))) ∧ W' = W) := fun W => Tryz.strings_HasSuffix _ _ W (by rw [tx_size, smallH_len]; simp; omega)
  have HM := hide hm
  have zA : ¬ 9223372036854775807 < 1 + (tx a).size := by rw [tx_size]; omega
  have zB : ¬ 9223372036854775807 < 1 + (tx b).size := by rw [tx_size]; omega
  clear hm ha hb
  generalize Lib.hasSuffix (smallL (46 :: a)) (smallL (46 :: b)) = x at *
  generalize belB a b = R at *
  generalize dnsL a = b1 at *
  generalize dnsL b = b2 at *
  generalize tx (smallL (46 :: a)) = LA at *
  generalize tx (smallL (46 :: b)) = LB at *
  generalize tx a = A at *
  generalize tx b = B at *
  cases b1 with
  | false =>
    have hR : Hid (R = false) := hM.out
    go_enter Tryz.func8, Tryz.ntmps8
    go_wp2_with (go_at_call 25; refine (d1.out _ HM.out).mono ?_; rintro e w1 ⟨rfl, K1⟩)
    go_ret
    exact ⟨by rw [hR.out]; rfl, K1⟩
  | true =>
    cases b2 with
    | false =>
      have hR : Hid (R = false) := hM.out
      go_enter Tryz.func8, Tryz.ntmps8
      go_wp2_with (first | (go_at_call 25; refine (d2.out _ K1.out).mono ?_; rintro e w2 ⟨rfl, K2⟩) | (go_at_call 25; refine (d1.out _ HM.out).mono ?_; rintro e w1 ⟨rfl, K1⟩; replace K1 := hide K1))
      go_ret
      exact ⟨by rw [hR.out]; rfl, K2⟩
    | true =>
      have hR : Hid (R = x) := hM.out
      have m1 := hide (l1.out rfl)
      have m2 := hide (l2.out rfl)
      go_enter Tryz.func8, Tryz.ntmps8
      go_wp2_with (first | (go_at_call 25; refine (d2.out _ K1.out).mono ?_; rintro e w2 ⟨rfl, K2⟩; replace K2 := hide K2) | (go_at_call 25; refine (d1.out _ HM.out).mono ?_; rintro e w1 ⟨rfl, K1⟩; replace K1 := hide K1) | (go_at_call 27; refine (m2.out _ K3.out).mono ?_; rintro e w4 ⟨rfl, K4⟩; replace K4 := hide K4) | (go_at_call 27; refine (m1.out _ K2.out).mono ?_; rintro e w3 ⟨rfl, K3⟩; replace K3 := hide K3) | (go_at_call 26; refine (s1.out _).mono ?_; rintro e w5 ⟨rfl, h5⟩; subst h5))
      go_ret
      exact ⟨by rw [hR.out]; rfl, K4.out⟩

end Go.Proofs.YtcbcdfdicefkoaaGreatDoor

namespace Go.Proofs.YtcbcdfdicefkoaaGreatDoor
open Go.RowKit Go.Shelf Go.IntWalk
open Go.ChangeMaps (setBlock heap_setBlock_same)

theorem Tryz.infoF : (Tryz.prog.info? 42).map (fun i => i.zero) = some (some .nilFunc) := by kernel_rfl
theorem klaw : Go.Maps.Keyed Tryz.prog 3 := Go.Maps.int_keyed Tryz.underlying3
theorem kof {a : Int} (h : (Lit.int .i64 a).wf = true) : keyOf Tryz.prog 3 (.int .i64 a) = some (.int .i64 a) := Go.Maps.keyOf_int_mk Tryz.underlying3 h

/-- A new key is laid behind the others. -/
theorem put_new {w : World} {b : Nat} {es : Array MapEntry} {clock : Nat} (hb : w.heap[b]? = some (.map es clock)) (k : Int) (v : Value) (hk : (Lit.int .i64 k).wf = true)
    (hes : ∀ e ∈ es.toList, ∃ j : Int, e.key = .int .i64 j ∧ (Lit.int .i64 j).wf = true ∧ j ≠ k) :
    (Instr.mapUpdate 69 (.map (some b)) (.int .i64 k) v).run Tryz.prog w = .ok () (setBlock w b (.map (es.push ⟨.int .i64 k, v, clock⟩) (clock + 1))) := by
  rcases klaw.find w (kof hk) es.toList (fun e he => by obtain ⟨j, h1, h2, _⟩ := hes e he; exact ⟨_, by rw [h1]; exact kof h2⟩) with ⟨h1, h2⟩ | ⟨j, e0, h1, h2, h3⟩
  · simp [Instr.mapUpdate, run_underlying Tryz.underlying69, MapKept.run_getObj_map hb, klaw.check w false (kof hk), h1, MapKept.run_setObj_map _ hb, Result.andThen, setBlock]
  · obtain ⟨i, k1, _, k3⟩ := hes e0 (List.mem_of_getElem? h2)
    rw [k1] at h3
    cases h3
    exact absurd rfl k3

/-- What is found at a key. -/
theorem look_yes {w : World} {b : Nat} {es : Array MapEntry} {clock : Nat} (hb : w.heap[b]? = some (.map es clock)) (k : Int) (v : Value) (hk : (Lit.int .i64 k).wf = true)
    (hes : ∀ e ∈ es.toList, ∃ j : Int, e.key = .int .i64 j ∧ (Lit.int .i64 j).wf = true) (hv : ∀ e ∈ es.toList, e.key = .int .i64 k → e.val = v) (hx : ∃ e ∈ es.toList, e.key = .int .i64 k) :
    (Instr.lookup 69 (.map (some b)) (.int .i64 k) true).run Tryz.prog w = .ok (.tuple #[v, .bool true]) w := by
  rcases klaw.find w (kof hk) es.toList (fun e he => by obtain ⟨j, h1, h2⟩ := hes e he; exact ⟨_, by rw [h1]; exact kof h2⟩) with ⟨h1, h2⟩ | ⟨j, e0, h1, h2, h3⟩
  · obtain ⟨e, k1, k2⟩ := hx
    exact absurd k2 (h2 e k1)
  · have h4 := hv e0 (List.mem_of_getElem? h2) h3
    simp [Instr.lookup, run_underlying Tryz.underlying69, MapKept.run_getObj_map hb, klaw.check w _ (kof hk), h1, h4, Result.andThen]
set_option maxRecDepth 100000 in
theorem look_no {w : World} {b : Nat} {es : Array MapEntry} {clock : Nat} (hb : w.heap[b]? = some (.map es clock)) (k : Int) (hk : (Lit.int .i64 k).wf = true)
    (hes : ∀ e ∈ es.toList, ∃ j : Int, e.key = .int .i64 j ∧ (Lit.int .i64 j).wf = true) (hx : ∀ e ∈ es.toList, e.key ≠ .int .i64 k) :
    (Instr.lookup 69 (.map (some b)) (.int .i64 k) true).run Tryz.prog w = .ok (.tuple #[.nilFunc, .bool false]) w := by
  rcases klaw.find w (kof hk) es.toList (fun e he => by obtain ⟨j, h1, h2⟩ := hes e he; exact ⟨_, by rw [h1]; exact kof h2⟩) with ⟨h1, h2⟩ | ⟨j, e0, h1, h2, h3⟩
  · have hz : (zeroValue 42).run Tryz.prog w = .ok .nilFunc w := by
      obtain ⟨i, hi, hz⟩ : ∃ i, Tryz.prog.info? 42 = some i ∧ i.zero = some .nilFunc := by
        have h9 := Tryz.infoF
        cases hi : Tryz.prog.info? 42 with
        | none => rw [hi] at h9; cases h9
        | some i => rw [hi] at h9; exact ⟨i, rfl, by simpa using h9⟩
      simp [zeroValue, typeInfo, hi, hz, Result.andThen, go_sem]
    simp [Instr.lookup, run_underlying Tryz.underlying69, MapKept.run_getObj_map hb, klaw.check w _ (kof hk), h1, hz, Result.andThen]
  · exact absurd h3 (hx e0 (List.mem_of_getElem? h2))

theorem nbelowW (W : World) (o : Obj) : Below W.heap.size W (W.alloc o) := (Below.refl _ _).alloc (Nat.le_refl _) _
def fnV (f : Nat) : Value := .func (.func f) #[] #[]
/-- The map of the rules. -/
def rulesM : Array MapEntry := #[⟨.int .i64 1, fnV 77, 0⟩, ⟨.int .i64 2, fnV 78, 1⟩, ⟨.int .i64 4, fnV 79, 2⟩, ⟨.int .i64 7, fnV 80, 3⟩]
theorem rules_keys : ∀ e ∈ rulesM.toList, ∃ j : Int, e.key = .int .i64 j ∧ (Lit.int .i64 j).wf = true := by
  intro e he
  simp [rulesM] at he
  rcases he with rfl | rfl | rfl | rfl <;> exact ⟨_, rfl, by decide⟩

theorem below_set {base : Nat} {w W : World} (h : Below base w W) {b : Nat} (hb : base ≤ b) (o : Obj) : Below base w (setBlock W b o) :=
  ⟨h.os, h.tape, h.output, by show w.heap.size ≤ (W.heap.setIfInBounds b o).size; rw [Array.size_setIfInBounds]; exact h.size, fun k hk => by
    show (W.heap.setIfInBounds b o)[k]? = _
    rw [Array.getElem?_setIfInBounds_ne (by omega)]
    exact h.block k hk⟩

set_option maxRecDepth 100000 in
set_option maxHeartbeats 1000000 in
theorem hrules_any (w : World) : Calls Tryz.prog 50 #[] w fun e w' => ∃ b, e = .returned (.map (some b)) ∧ w'.heap[b]? = some (.map rulesM 4) ∧ Below w.heap.size w w' := by
  have h0 := @run_makeMap Tryz.prog 69 w
  have hb0 : (w.alloc (.map #[] 0)).heap[w.heap.size]? = some (.map #[] 0) := heap_alloc_new w _
  have B0 := nbelowW w (.map #[] 0)
  generalize w.alloc (.map #[] 0) = W0 at h0 hb0 B0
  have h1 := put_new hb0 1 (fnV 77) (by decide) (by intro e he; simp at he)
  have hb1 := heap_setBlock_same hb0 (.map (#[].push ⟨.int .i64 1, fnV 77, 0⟩) (0 + 1))
  have B1 := below_set B0 (Nat.le_refl _) (.map (#[].push ⟨.int .i64 1, fnV 77, 0⟩) (0 + 1))
  generalize setBlock W0 w.heap.size _ = W1 at h1 hb1 B1
  have h2 := put_new hb1 2 (fnV 78) (by decide) (by intro e he; simp at he; subst he; exact ⟨_, rfl, by decide, by decide⟩)
  have hb2 := heap_setBlock_same hb1 (.map ((#[].push ⟨.int .i64 1, fnV 77, 0⟩).push ⟨.int .i64 2, fnV 78, 0 + 1⟩) (0 + 1 + 1))
  have B2 := below_set B1 (Nat.le_refl _) (.map ((#[].push ⟨.int .i64 1, fnV 77, 0⟩).push ⟨.int .i64 2, fnV 78, 0 + 1⟩) (0 + 1 + 1))
  generalize setBlock W1 w.heap.size _ = W2 at h2 hb2 B2
  have h3 := put_new hb2 4 (fnV 79) (by decide) (by intro e he; simp at he; rcases he with rfl | rfl <;> exact ⟨_, rfl, by decide, by decide⟩)
  have hb3 := heap_setBlock_same hb2 (.map (((#[].push ⟨.int .i64 1, fnV 77, 0⟩).push ⟨.int .i64 2, fnV 78, 0 + 1⟩).push ⟨.int .i64 4, fnV 79, 0 + 1 + 1⟩) (0 + 1 + 1 + 1))
  have B3 := below_set B2 (Nat.le_refl _) (.map (((#[].push ⟨.int .i64 1, fnV 77, 0⟩).push ⟨.int .i64 2, fnV 78, 0 + 1⟩).push ⟨.int .i64 4, fnV 79, 0 + 1 + 1⟩) (0 + 1 + 1 + 1))
  generalize setBlock W2 w.heap.size _ = W3 at h3 hb3 B3
  have h4 := put_new hb3 7 (fnV 80) (by decide) (by intro e he; simp at he; rcases he with rfl | rfl | rfl <;> exact ⟨_, rfl, by decide, by decide⟩)
  have hb4 := heap_setBlock_same hb3 (.map ((((#[].push ⟨.int .i64 1, fnV 77, 0⟩).push ⟨.int .i64 2, fnV 78, 0 + 1⟩).push ⟨.int .i64 4, fnV 79, 0 + 1 + 1⟩).push ⟨.int .i64 7, fnV 80, 0 + 1 + 1 + 1⟩) (0 + 1 + 1 + 1 + 1))
  have B4 := below_set B3 (Nat.le_refl _) (.map ((((#[].push ⟨.int .i64 1, fnV 77, 0⟩).push ⟨.int .i64 2, fnV 78, 0 + 1⟩).push ⟨.int .i64 4, fnV 79, 0 + 1 + 1⟩).push ⟨.int .i64 7, fnV 80, 0 + 1 + 1 + 1⟩) (0 + 1 + 1 + 1 + 1))
  generalize setBlock W3 w.heap.size _ = W4 at h4 hb4 B4
  have R := hide (And.intro hb4 B4)
  clear hb0 B0 hb1 B1 hb2 B2 hb3 B3 hb4 B4
  unfold fnV at h1 h2 h3 h4
  go_enter Tryz.func50, Tryz.ntmps50
  go_wp2
  go_ret
  exact ⟨_, rfl, R.out.1, R.out.2⟩

end Go.Proofs.YtcbcdfdicefkoaaGreatDoor
