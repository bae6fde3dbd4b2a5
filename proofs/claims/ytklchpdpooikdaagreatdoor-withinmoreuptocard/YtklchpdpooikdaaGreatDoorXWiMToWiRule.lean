/-
  A host's name below another one, on lists of bytes. No program.
  within.Below: is a host's name below another one?
  host.rules: the map of the kinds' rules.
  within.ruleOf: the rule of a kind.
-/
import Derived.Lib.Case
import Derived.Test.YtklchpdpooikdaaGreatDoorXHoR3ToHoSm
import Derived.Test.YtklchpdpooikdaaGreatDoorXWiIdxToHoMt
import Derived.Maps.Keyed
import Derived.ChangeMaps5
import Derived.Carry
import Derived.Laws.EntriesVeiled
import Derived.Laws.ResultCell
import Derived.Deep.RegionHeld
namespace Go.Proofs.YtklchpdpooikdaaGreatDoor

theorem lower_small (b : UInt8) : Lib.lowerB b = smallB b := by
  apply UInt8.toNat_inj.1
  rw [small_nat]
  have hb := b.toNat_lt
  have hi := Lib.isUpperB_int b
  unfold Lib.lowerB
  rw [hi]
  by_cases h : 65 ≤ b.toNat ∧ b.toNat ≤ 90
  · rw [if_pos h, if_pos (by simp; omega), UInt8.toNat_add]
    simp; omega
  · rw [if_neg h, if_neg (by simp; omega)]
theorem lower_smallL (l : List UInt8) : Lib.toLowerA l = smallL l := by
  unfold Lib.toLowerA smallL
  exact List.map_congr_left fun b _ => lower_small b

/-- Is a below b? -/
def belB (a b : List UInt8) : Bool := dnsL a && (dnsL b && Lib.hasSuffix (smallL (46 :: a)) (smallL (46 :: b)))

theorem suf_iff (a b : List UInt8) : Lib.hasSuffix a b = true ↔ b <:+ a := by unfold Lib.hasSuffix; exact List.isSuffixOf_iff_suffix
theorem bel_iff (a b : List UInt8) : belB a b = true ↔ dnsL a = true ∧ dnsL b = true ∧ smallL (46 :: b) <:+ smallL (46 :: a) := by
  unfold belB
  rw [Bool.and_eq_true, Bool.and_eq_true, suf_iff]
theorem bel_self (a : List UInt8) : belB a a = dnsL a := by
  rw [Bool.eq_iff_iff, bel_iff]
  exact ⟨fun h => h.1, fun h => ⟨h, h, List.suffix_refl _⟩⟩
theorem bel_down {a b c : List UInt8} (h1 : belB a b = true) (h2 : belB b c = true) : belB a c = true := by
  rw [bel_iff] at *
  exact ⟨h1.1, h2.2.1, h2.2.2.trans h1.2.2⟩
theorem suf_both {a b : List UInt8} (h1 : a <:+ b) (h2 : b <:+ a) : a = b := h1.eq_of_length (Nat.le_antisymm h1.length_le h2.length_le)
theorem bel_both (a b : List UInt8) : (belB a b && belB b a) = (matchL a b && dnsL a) := by
  rw [Bool.eq_iff_iff, Bool.and_eq_true, Bool.and_eq_true, bel_iff, bel_iff]
  unfold matchL
  rw [Bool.and_eq_true]
  constructor
  · rintro ⟨⟨ha, hb, h1⟩, _, _, h2⟩
    refine ⟨⟨hb, ?_⟩, ha⟩
    rw [if_pos ha, fold_small, decide_eq_true_eq]
    have := suf_both h2 h1
    exact (List.cons.inj this).2
  · rintro ⟨⟨hb, hm⟩, ha⟩
    rw [if_pos ha, fold_small, decide_eq_true_eq] at hm
    have e : smallL (46 :: a) = smallL (46 :: b) := congrArg (smallB 46 :: ·) hm
    exact ⟨⟨ha, hb, by rw [e]; exact List.suffix_refl _⟩, hb, ha, by rw [e]; exact List.suffix_refl _⟩

/-- Label by label, from the last one on. -/
theorem labsG_app : ∀ (t acc b : List UInt8), labsG acc (t ++ 46 :: b) = labsG acc t ++ labs b
  | [], acc, b => by
    show labsG acc (46 :: b) = [acc] ++ labs b
    rw [labsG, if_pos rfl]
    rfl
  | c :: r, acc, b => by
    show labsG acc (c :: (r ++ 46 :: b)) = _
    rw [labsG, labsG]
    by_cases hc : c = 46
    · rw [if_pos hc, if_pos hc, labsG_app r, List.cons_append]
    · rw [if_neg hc, if_neg hc, labsG_app r]
theorem foldl_dot : ∀ (ws : List (List UInt8)) (x : List UInt8), ws.foldl (fun a v => a ++ [46] ++ v) x = x ++ ws.foldl (fun a v => a ++ [46] ++ v) []
  | ws, x => by
    have := foldl_acc ws x []
    rwa [List.append_nil] at this
theorem foldl_join : ∀ (ws : List (List UInt8)), ws ≠ [] → ws.foldl (fun a v => a ++ [46] ++ v) [] = 46 :: joinL ws
  | [], h => absurd rfl h
  | u :: ws, _ => by
    show ws.foldl (fun a v => a ++ [46] ++ v) ([] ++ [46] ++ u) = 46 :: ws.foldl (fun a v => a ++ [46] ++ v) u
    rw [foldl_acc ws ([] ++ [46]) u]
    rfl
theorem joinL_app (x y : List (List UInt8)) (hx : x ≠ []) (hy : y ≠ []) : joinL (x ++ y) = joinL x ++ 46 :: joinL y := by
  cases x with
  | nil => exact absurd rfl hx
  | cons u r =>
    show (r ++ y).foldl (fun a v => a ++ [46] ++ v) u = r.foldl (fun a v => a ++ [46] ++ v) u ++ 46 :: joinL y
    rw [List.foldl_append, foldl_dot y, foldl_join y hy]
theorem suf_labs (a b : List UInt8) : 46 :: b <:+ 46 :: a ↔ labs b <:+ labs a := by
  have e : labs (46 :: a) = [] :: labs a := by unfold labs; rw [labsG, if_pos rfl]
  constructor
  · rintro ⟨t, ht⟩
    have h := labsG_app t [] b
    rw [ht] at h
    have h2 : [] :: labs a = labs t ++ labs b := by rw [← e]; exact h
    cases hl : labs t with
    | nil => exact absurd hl (labsG_ne _ _)
    | cons u ws =>
      rw [hl, List.cons_append] at h2
      exact ⟨ws, (List.cons.inj h2).2.symm⟩
  · rintro ⟨t, ht⟩
    have h1 : joinL (([] :: t) ++ labs b) = joinL ([] :: t) ++ 46 :: joinL (labs b) := joinL_app _ _ (by simp) (labsG_ne _ _)
    rw [join_labs, List.cons_append, ht, ← e, join_labs] at h1
    exact ⟨_, h1.symm⟩
theorem bel_labs (a b : List UInt8) : belB a b = (dnsL a && (dnsL b && (labs (smallL b)).isSuffixOf (labs (smallL a)))) := by
  unfold belB
  congr 2
  rw [Bool.eq_iff_iff, suf_iff, List.isSuffixOf_iff_suffix, ← suf_labs]
  rfl

end Go.Proofs.YtklchpdpooikdaaGreatDoor

namespace Go.Proofs.YtklchpdpooikdaaGreatDoor
open Go.RowKit Go.Shelf Go.IntWalk

theorem tx_catW (a b : List UInt8) : tx a ++ tx b = tx (a ++ b) := by
  apply ByteArray.ext
  apply Array.ext'
  simp [tx]
theorem dot_cat (a : List UInt8) : (⟨#[46]⟩ : ByteArray) ++ tx a = tx (46 :: a) := tx_catW [46] a

/-- What stood in the world w stands, and so does the table that strings.Cut reads. -/
def Kp (w : World) (m : Int) (W : World) : Prop := Below w.heap.size w W ∧ ML W m
theorem Kp.next {w W W' : World} {m : Int} (h : Kp w m W) (hb : Below W.heap.size W W') : Kp w m W' := ⟨h.1.trans (hb.mono h.1.size), h.2.below hb⟩
theorem Kp.refl {w : World} {m : Int} (h : ML w m) : Kp w m w := ⟨Below.refl _ _, h⟩
theorem Kp.own {w0 w : World} {m : Int} (h : Kp w0 m w) {W' : World} (h2 : Kp w m W') : Kp w0 m W' := h.next h2.1

theorem lower_any (a : List UInt8) (ha : a.length ≤ 1048576) (xa : dnsL a = true) (w : World) :
    Calls Tryz.prog 45 #[.string (tx (46 :: a))] w fun e w' => e = .returned (.string (tx (smallL (46 :: a)))) ∧ Below w.heap.size w w' := by
  have h := Tryz.strings_ToLower_ascii (tx (46 :: a)) w (by rw [tx_size]; simp; omega) (fun _ x hx => by
    have hm : x ∈ 46 :: a := List.mem_of_getElem? hx
    rcases List.mem_cons.1 hm with rfl | hm
    · decide
    · exact dns_ascii xa x hm)
  rw [tx_list, lower_smallL] at h
  exact h

set_option maxRecDepth 100000 in
set_option maxHeartbeats 2000000 in
theorem below_kp (w0 : World) (a b : List UInt8) (ha : a.length ≤ 1048576) (hb : b.length ≤ 1048576) (m : Int) (w : World) (hm : Kp w0 m w) :
    Calls Tryz.prog 28 #[.string (tx a), .string (tx b)] w fun e w' => e = .returned (.bool (belB a b)) ∧ Kp w0 m w' := by
  have hM : Hid (belB a b = (dnsL a && (dnsL b && Lib.hasSuffix (smallL (46 :: a)) (smallL (46 :: b))))) := rfl
  have d1 : Hid (∀ W, Kp w0 m W → Calls Tryz.prog 43 #[.string (tx a)] W fun e W' => e = .returned (.bool (dnsL a)) ∧ Kp w0 m W') := fun W h => (dns_any a ha m W h.2).mono fun e W' ⟨h1, h2⟩ => ⟨h1, h.next h2⟩
  have d2 : Hid (∀ W, Kp w0 m W → Calls Tryz.prog 43 #[.string (tx b)] W fun e W' => e = .returned (.bool (dnsL b)) ∧ Kp w0 m W') := fun W h => (dns_any b hb m W h.2).mono fun e W' ⟨h1, h2⟩ => ⟨h1, h.next h2⟩
  have l1 : Hid (dnsL a = true → ∀ W, Kp w0 m W → Calls Tryz.prog 45 #[.string (⟨#[46]⟩ ++ tx a)] W fun e W' => e = .returned (.string (tx (smallL (46 :: a)))) ∧ Kp w0 m W') := fun h0 W h => by rw [dot_cat]; exact (lower_any a ha h0 W).mono fun e W' ⟨h1, h2⟩ => ⟨h1, h.next h2⟩
  have l2 : Hid (dnsL b = true → ∀ W, Kp w0 m W → Calls Tryz.prog 45 #[.string (⟨#[46]⟩ ++ tx b)] W fun e W' => e = .returned (.string (tx (smallL (46 :: b)))) ∧ Kp w0 m W') := fun h0 W h => by rw [dot_cat]; exact (lower_any b hb h0 W).mono fun e W' ⟨h1, h2⟩ => ⟨h1, h.next h2⟩
  have s1 : Hid (∀ W, Calls Tryz.prog 44 #[.string (tx (smallL (46 :: a))), .string (tx (smallL (46 :: b)))] W fun e W' => e = .returned (.bool (Lib.hasSuffix (smallL (46 :: a)) (smallL (46 :: b)))) ∧ W' = W) := fun W => Tryz.strings_HasSuffix _ _ W (by rw [tx_size, smallH_len]; simp; omega)
  have HM := hide hm
  have zA : ¬ 9223372036854775807 < 1 + (tx a).size := by rw [tx_size]; omega
  have zB : ¬ 9223372036854775807 < 1 + (tx b).size := by rw [tx_size]; omega
  clear hm ha hb
  generalize Lib.hasSuffix (smallL (46 :: a)) (smallL (46 :: b)) = x at *
  generalize belB a b = R at *
  generalize dnsL a = b1 at *
  generalize dnsL b = b2 at *
  generalize tx (smallL (46 :: a)) = LA at *
  generalize tx (smallL (46 :: b)) = LB at *
  generalize tx a = A at *
  generalize tx b = B at *
  cases b1 with
  | false =>
    have hR : Hid (R = false) := hM.out
    go_enter Tryz.func28, Tryz.ntmps28
    go_wp2_with (go_at_call 43; refine (d1.out _ HM.out).mono ?_; rintro e w1 ⟨rfl, K1⟩)
    go_ret
    exact ⟨by rw [hR.out]; rfl, K1⟩
  | true =>
    cases b2 with
    | false =>
      have hR : Hid (R = false) := hM.out
      go_enter Tryz.func28, Tryz.ntmps28
      go_wp2_with (first | (go_at_call 43; refine (d2.out _ K1.out).mono ?_; rintro e w2 ⟨rfl, K2⟩) | (go_at_call 43; refine (d1.out _ HM.out).mono ?_; rintro e w1 ⟨rfl, K1⟩; replace K1 := hide K1))
      go_ret
      exact ⟨by rw [hR.out]; rfl, K2⟩
    | true =>
      have hR : Hid (R = x) := hM.out
      have m1 := hide (l1.out rfl)
      have m2 := hide (l2.out rfl)
      go_enter Tryz.func28, Tryz.ntmps28
      go_wp2_with (first | (go_at_call 43; refine (d2.out _ K1.out).mono ?_; rintro e w2 ⟨rfl, K2⟩; replace K2 := hide K2) | (go_at_call 43; refine (d1.out _ HM.out).mono ?_; rintro e w1 ⟨rfl, K1⟩; replace K1 := hide K1) | (go_at_call 45; refine (m2.out _ K3.out).mono ?_; rintro e w4 ⟨rfl, K4⟩; replace K4 := hide K4) | (go_at_call 45; refine (m1.out _ K2.out).mono ?_; rintro e w3 ⟨rfl, K3⟩; replace K3 := hide K3) | (go_at_call 44; refine (s1.out _).mono ?_; rintro e w5 ⟨rfl, h5⟩; subst h5))
      go_ret
      exact ⟨by rw [hR.out]; rfl, K4.out⟩

end Go.Proofs.YtklchpdpooikdaaGreatDoor

namespace Go.Proofs.YtklchpdpooikdaaGreatDoor
open Go.RowKit Go.Shelf Go.IntWalk
open Go.ChangeMaps (setBlock heap_setBlock_same)

theorem Tryz.infoF : (Tryz.prog.info? 54).map (fun i => i.zero) = some (some .nilFunc) := by kernel_rfl
theorem klaw : Go.Maps.Keyed Tryz.prog 3 := Go.Maps.int_keyed Tryz.underlying3
theorem kof {a : Int} (h : (Lit.int .i64 a).wf = true) : keyOf Tryz.prog 3 (.int .i64 a) = some (.int .i64 a) := Go.Maps.keyOf_int_mk Tryz.underlying3 h

/-- A new key is laid behind the others. -/
theorem put_new {w : World} {b : Nat} {es : Array MapEntry} {clock : Nat} (hb : w.heap[b]? = some (.map es clock)) (k : Int) (v : Value) (hk : (Lit.int .i64 k).wf = true)
    (hes : ∀ e ∈ es.toList, ∃ j : Int, e.key = .int .i64 j ∧ (Lit.int .i64 j).wf = true ∧ j ≠ k) :
    (Instr.mapUpdate 56 (.map (some b)) (.int .i64 k) v).run Tryz.prog w = .ok () (setBlock w b (.map (es.push ⟨.int .i64 k, v, clock⟩) (clock + 1))) := by
  rcases klaw.find w (kof hk) es.toList (fun e he => by obtain ⟨j, h1, h2, _⟩ := hes e he; exact ⟨_, by rw [h1]; exact kof h2⟩) with ⟨h1, h2⟩ | ⟨j, e0, h1, h2, h3⟩
  · simp [Instr.mapUpdate, run_underlying Tryz.underlying56, MapKept.run_getObj_map hb, klaw.check w false (kof hk), h1, MapKept.run_setObj_map _ hb, Result.andThen, setBlock]
  · obtain ⟨i, k1, _, k3⟩ := hes e0 (List.mem_of_getElem? h2)
    rw [k1] at h3
    cases h3
    exact absurd rfl k3

/-- What is found at a key. -/
theorem look_yes {w : World} {b : Nat} {es : Array MapEntry} {clock : Nat} (hb : w.heap[b]? = some (.map es clock)) (k : Int) (v : Value) (hk : (Lit.int .i64 k).wf = true)
    (hes : ∀ e ∈ es.toList, ∃ j : Int, e.key = .int .i64 j ∧ (Lit.int .i64 j).wf = true) (hv : ∀ e ∈ es.toList, e.key = .int .i64 k → e.val = v) (hx : ∃ e ∈ es.toList, e.key = .int .i64 k) :
    (Instr.lookup 56 (.map (some b)) (.int .i64 k) true).run Tryz.prog w = .ok (.tuple #[v, .bool true]) w := by
  rcases klaw.find w (kof hk) es.toList (fun e he => by obtain ⟨j, h1, h2⟩ := hes e he; exact ⟨_, by rw [h1]; exact kof h2⟩) with ⟨h1, h2⟩ | ⟨j, e0, h1, h2, h3⟩
  · obtain ⟨e, k1, k2⟩ := hx
    exact absurd k2 (h2 e k1)
  · have h4 := hv e0 (List.mem_of_getElem? h2) h3
    simp [Instr.lookup, run_underlying Tryz.underlying56, MapKept.run_getObj_map hb, klaw.check w _ (kof hk), h1, h4, Result.andThen]
set_option maxRecDepth 100000 in
theorem look_no {w : World} {b : Nat} {es : Array MapEntry} {clock : Nat} (hb : w.heap[b]? = some (.map es clock)) (k : Int) (hk : (Lit.int .i64 k).wf = true)
    (hes : ∀ e ∈ es.toList, ∃ j : Int, e.key = .int .i64 j ∧ (Lit.int .i64 j).wf = true) (hx : ∀ e ∈ es.toList, e.key ≠ .int .i64 k) :
    (Instr.lookup 56 (.map (some b)) (.int .i64 k) true).run Tryz.prog w = .ok (.tuple #[.nilFunc, .bool false]) w := by
  rcases klaw.find w (kof hk) es.toList (fun e he => by obtain ⟨j, h1, h2⟩ := hes e he; exact ⟨_, by rw [h1]; exact kof h2⟩) with ⟨h1, h2⟩ | ⟨j, e0, h1, h2, h3⟩
  · have hz : (zeroValue 54).run Tryz.prog w = .ok .nilFunc w := by
      obtain ⟨i, hi, hz⟩ : ∃ i, Tryz.prog.info? 54 = some i ∧ i.zero = some .nilFunc := by
        have h9 := Tryz.infoF
        cases hi : Tryz.prog.info? 54 with
        | none => rw [hi] at h9; cases h9
        | some i => rw [hi] at h9; exact ⟨i, rfl, by simpa using h9⟩
      simp [zeroValue, typeInfo, hi, hz, Result.andThen, go_sem]
    simp [Instr.lookup, run_underlying Tryz.underlying56, MapKept.run_getObj_map hb, klaw.check w _ (kof hk), h1, hz, Result.andThen]
  · exact absurd h3 (hx e0 (List.mem_of_getElem? h2))

theorem nbelowW (W : World) (o : Obj) : Below W.heap.size W (W.alloc o) := (Below.refl _ _).alloc (Nat.le_refl _) _
def fnV (f : Nat) : Value := .func (.func f) #[] #[]
/-- The map of the rules. -/
def rulesM : Array MapEntry := #[⟨.int .i64 1, fnV 47, 0⟩, ⟨.int .i64 2, fnV 48, 1⟩, ⟨.int .i64 4, fnV 50, 2⟩, ⟨.int .i64 7, fnV 51, 3⟩]
theorem rules_keys : ∀ e ∈ rulesM.toList, ∃ j : Int, e.key = .int .i64 j ∧ (Lit.int .i64 j).wf = true := by
  intro e he
  simp [rulesM] at he
  rcases he with rfl | rfl | rfl | rfl <;> exact ⟨_, rfl, by decide⟩

theorem below_set {base : Nat} {w W : World} (h : Below base w W) {b : Nat} (hb : base ≤ b) (o : Obj) : Below base w (setBlock W b o) :=
  ⟨h.os, h.tape, h.output, by show w.heap.size ≤ (W.heap.setIfInBounds b o).size; rw [Array.size_setIfInBounds]; exact h.size, fun k hk => by
    show (W.heap.setIfInBounds b o)[k]? = _
    rw [Array.getElem?_setIfInBounds_ne (by omega)]
    exact h.block k hk⟩

set_option maxRecDepth 100000 in
set_option maxHeartbeats 1000000 in
theorem hrules_any (w : World) : Calls Tryz.prog 31 #[] w fun e w' => ∃ b, e = .returned (.map (some b)) ∧ w'.heap[b]? = some (.map rulesM 4) ∧ Below w.heap.size w w' := by
  have h0 := @run_makeMap Tryz.prog 56 w
  have hb0 : (w.alloc (.map #[] 0)).heap[w.heap.size]? = some (.map #[] 0) := heap_alloc_new w _
  have B0 := nbelowW w (.map #[] 0)
  generalize w.alloc (.map #[] 0) = W0 at h0 hb0 B0
  have h1 := put_new hb0 1 (fnV 47) (by decide) (by intro e he; simp at he)
  have hb1 := heap_setBlock_same hb0 (.map (#[].push ⟨.int .i64 1, fnV 47, 0⟩) (0 + 1))
  have B1 := below_set B0 (Nat.le_refl _) (.map (#[].push ⟨.int .i64 1, fnV 47, 0⟩) (0 + 1))
  generalize setBlock W0 w.heap.size _ = W1 at h1 hb1 B1
  have h2 := put_new hb1 2 (fnV 48) (by decide) (by intro e he; simp at he; subst he; exact ⟨_, rfl, by decide, by decide⟩)
  have hb2 := heap_setBlock_same hb1 (.map ((#[].push ⟨.int .i64 1, fnV 47, 0⟩).push ⟨.int .i64 2, fnV 48, 0 + 1⟩) (0 + 1 + 1))
  have B2 := below_set B1 (Nat.le_refl _) (.map ((#[].push ⟨.int .i64 1, fnV 47, 0⟩).push ⟨.int .i64 2, fnV 48, 0 + 1⟩) (0 + 1 + 1))
  generalize setBlock W1 w.heap.size _ = W2 at h2 hb2 B2
  have h3 := put_new hb2 4 (fnV 50) (by decide) (by intro e he; simp at he; rcases he with rfl | rfl <;> exact ⟨_, rfl, by decide, by decide⟩)
  have hb3 := heap_setBlock_same hb2 (.map (((#[].push ⟨.int .i64 1, fnV 47, 0⟩).push ⟨.int .i64 2, fnV 48, 0 + 1⟩).push ⟨.int .i64 4, fnV 50, 0 + 1 + 1⟩) (0 + 1 + 1 + 1))
  have B3 := below_set B2 (Nat.le_refl _) (.map (((#[].push ⟨.int .i64 1, fnV 47, 0⟩).push ⟨.int .i64 2, fnV 48, 0 + 1⟩).push ⟨.int .i64 4, fnV 50, 0 + 1 + 1⟩) (0 + 1 + 1 + 1))
  generalize setBlock W2 w.heap.size _ = W3 at h3 hb3 B3
  have h4 := put_new hb3 7 (fnV 51) (by decide) (by intro e he; simp at he; rcases he with rfl | rfl | rfl <;> exact ⟨_, rfl, by decide, by decide⟩)
  have hb4 := heap_setBlock_same hb3 (.map ((((#[].push ⟨.int .i64 1, fnV 47, 0⟩).push ⟨.int .i64 2, fnV 48, 0 + 1⟩).push ⟨.int .i64 4, fnV 50, 0 + 1 + 1⟩).push ⟨.int .i64 7, fnV 51, 0 + 1 + 1 + 1⟩) (0 + 1 + 1 + 1 + 1))
  have B4 := below_set B3 (Nat.le_refl _) (.map ((((#[].push ⟨.int .i64 1, fnV 47, 0⟩).push ⟨.int .i64 2, fnV 48, 0 + 1⟩).push ⟨.int .i64 4, fnV 50, 0 + 1 + 1⟩).push ⟨.int .i64 7, fnV 51, 0 + 1 + 1 + 1⟩) (0 + 1 + 1 + 1 + 1))
  generalize setBlock W3 w.heap.size _ = W4 at h4 hb4 B4
  have R := hide (And.intro hb4 B4)
  clear hb0 B0 hb1 B1 hb2 B2 hb3 B3 hb4 B4
  unfold fnV at h1 h2 h3 h4
  go_enter Tryz.func31, Tryz.ntmps31
  go_wp2
  go_ret
  exact ⟨_, rfl, R.out.1, R.out.2⟩

end Go.Proofs.YtklchpdpooikdaaGreatDoor

namespace Go.Proofs.YtklchpdpooikdaaGreatDoor
open Go.RowKit Go.Shelf Go.IntWalk

def ruleC : Array Value := #[.int .i64 1, fnV 74, fnV 75, .int .i64 2, fnV 76, fnV 77, .int .i64 4, fnV 78, fnV 79, .int .i64 7, fnV 80, fnV 81]
set_option maxRecDepth 100000 in
theorem wrules_any (w : World) : Calls Tryz.prog 46 #[] w fun e w' => e = .returned (.slice (some ⟨w.heap.size, 0, none⟩) 4 4) ∧ w' = w.alloc (.cells ruleC 50) := by
  go_enter Tryz.func46, Tryz.ntmps46
  go_wp2
  go_ret
  exact ⟨rfl, rfl⟩

/-- The kind and the two questions at a place. -/
def rk : Nat → Int | 0 => 1 | 1 => 2 | 2 => 4 | _ => 7
def rm : Nat → Value | 0 => fnV 74 | 1 => fnV 76 | 2 => fnV 78 | _ => fnV 80
def rh : Nat → Value | 0 => fnV 75 | 1 => fnV 77 | 2 => fnV 79 | _ => fnV 81
/-- Where the rule of a kind stands; 4: there is none. -/
def rAt (kind : Int) : Nat := if kind = 1 then 0 else if kind = 2 then 1 else if kind = 4 then 2 else if kind = 7 then 3 else 4
def ruleV (kind : Int) : Value := if rAt kind < 4 then .agg #[.int .i64 kind, rm (rAt kind), rh (rAt kind)] else .agg #[.int .i64 0, .nilFunc, .nilFunc]
theorem rAt_rk (kind : Int) (k : Nat) (hk : k < 4) : rk k = kind ↔ rAt kind = k := by
  unfold rAt
  rcases (by omega : k = 0 ∨ k = 1 ∨ k = 2 ∨ k = 3) with rfl | rfl | rfl | rfl <;> simp only [rk] <;> (repeat' split) <;> omega

theorem rule_cells (w : World) (k : Nat) (hk : k < 4) : (w.alloc (.cells ruleC 50)).cell? ⟨w.heap.size, k * 3, none⟩ = some (.int .i64 (rk k)) ∧
    (w.alloc (.cells ruleC 50)).cell? ⟨w.heap.size, k * 3 + 1, none⟩ = some (rm k) ∧ (w.alloc (.cells ruleC 50)).cell? ⟨w.heap.size, k * 3 + 2, none⟩ = some (rh k) := by
  rcases (by omega : k = 0 ∨ k = 1 ∨ k = 2 ∨ k = 3) with rfl | rfl | rfl | rfl <;> refine ⟨?_, ?_, ?_⟩ <;> simp [ruleC, rk, rm, rh]

theorem heap_oldR (w : World) (o : Obj) {r : Nat} (h : r < w.heap.size) : (w.alloc o).heap[r]? = w.heap[r]? := by
  show (w.heap.push o)[r]? = w.heap[r]?
  rw [Array.getElem?_push_lt h, Array.getElem?_eq_getElem h]
theorem after3 {wr : World} {g : Nat} {u0 u1 u2 : Value} (hg : wr.heap[g]? = some (.cells #[u0, u1, u2] 50)) (x y z : Value) (o : Obj) :
    ((((wr.setCell ⟨g, 0, none⟩ x).setCell ⟨g, 1, none⟩ y).setCell ⟨g, 2, none⟩ z).alloc o).heap[g]? = some (.cells #[x, y, z] 50) := by
  have h1 := heap_setCell_same wr g 0 _ _ x hg
  have h2 := heap_setCell_same _ g 1 _ _ y h1
  have h3 := heap_setCell_same _ g 2 _ _ z h2
  rw [heap_oldR _ _ ((Array.getElem?_eq_some_iff.1 h3).1), h3]
  rfl
theorem three_cells {W : World} {g : Nat} {x y z : Value} (h : W.heap[g]? = some (.cells #[x, y, z] 50)) : W.cell? ⟨g, 0, none⟩ = some x ∧ W.cell? ⟨g, 1, none⟩ = some y ∧ W.cell? ⟨g, 2, none⟩ = some z := by
  refine ⟨?_, ?_, ?_⟩ <;> simp [World.cell?, h]
set_option maxRecDepth 100000 in
set_option maxHeartbeats 2000000 in
theorem ruleOf_any (kind : Int) (w : World) : Calls Tryz.prog 30 #[.int .i64 kind] w fun e w' => e = .returned (.tuple #[ruleV kind, .bool (decide (rAt kind < 4))]) ∧ Below w.heap.size w w' := by
  go_enter Tryz.func30, Tryz.ntmps30
  go_wp2_with fail
  refine (wrules_any _).mono ?_
  rintro e w1 ⟨rfl, h1⟩
  have hz : w1.heap.size = w.heap.size + 2 := by rw [h1]; simp
  have hc : Hid (∀ k, k < 4 → w1.cell? ⟨w.heap.size + 1, k * 3, none⟩ = some (.int .i64 (rk k)) ∧ w1.cell? ⟨w.heap.size + 1, k * 3 + 1, none⟩ = some (rm k) ∧ w1.cell? ⟨w.heap.size + 1, k * 3 + 2, none⟩ = some (rh k)) := fun k hk => by
    have h9 := rule_cells (w.alloc (.cells #[.int .i64 0, .nilFunc, .nilFunc] 50)) k hk
    rw [← h1] at h9
    simpa using h9
  have hr : w1.heap[w.heap.size]? = some (.cells #[.int .i64 0, .nilFunc, .nilFunc] 50) := by
    rw [h1, heap_oldR (w.alloc _) _ (by simp : w.heap.size < (w.alloc (.cells #[.int .i64 0, .nilFunc, .nilFunc] 50)).heap.size)]
    exact heap_alloc_new w _
  have B1 : Below w.heap.size w w1 := by rw [h1]; exact ((Below.refl _ _).alloc (Nat.le_refl _) _).alloc (by simp) _
  simp only [World.size_alloc]
  clear h1
  generalize hgw : w.heap.size = g at hc hr hz B1 ⊢
  have HR := hide hr
  have HB := hide B1
  clear hr B1
  go_wp2
  go_loopw [8] (fun v wr => ∃ k : Nat, v = .int .i64 k ∧ k ≤ 4 ∧ Hid (∀ j, j < k → rk j ≠ kind) ∧ Hid (Below w1.heap.size w1 wr)) (fun v _ => 4 - (intOf v).toNat)
  case atStart => exact ⟨0, rfl, by omega, fun j hj => absurd hj (by omega), Below.refl _ _⟩
  case round =>
    obtain ⟨k, rfl, hk, hN, hQ⟩ := hrel
    have hg : wr.heap[g]? = some (.cells #[.int .i64 0, .nilFunc, .nilFunc] 50) := (hQ.out.block g (by omega)).trans HR.out
    have z0 : wr.cell? ⟨g, 0, none⟩ = some (.int .i64 0) := by simp [World.cell?, hg]
    have z1 : wr.cell? ⟨g, 1, none⟩ = some .nilFunc := by simp [World.cell?, hg]
    have z2 : wr.cell? ⟨g, 2, none⟩ = some .nilFunc := by simp [World.cell?, hg]
    have f0 : wr.frozen? ⟨g, 0, none⟩ = false := by simp [World.frozen?, hg]
    have f1 : wr.frozen? ⟨g, 1, none⟩ = false := by simp [World.frozen?, hg]
    have f2 : wr.frozen? ⟨g, 2, none⟩ = false := by simp [World.frozen?, hg]
    have hgl : g < wr.heap.size := by have := hQ.out.size; omega
    have hgA : ∀ o, (wr.alloc o).heap[g]? = some (.cells #[.int .i64 0, .nilFunc, .nilFunc] 50) := fun o => (heap_oldR wr o hgl).trans hg
    have a0 : ∀ o, (wr.alloc o).cell? ⟨g, 0, none⟩ = some (.int .i64 0) := fun o => by simp [World.cell?, hgA o]
    have a1 : ∀ o, (wr.alloc o).cell? ⟨g, 1, none⟩ = some .nilFunc := fun o => by simp [World.cell?, hgA o]
    have a2 : ∀ o, (wr.alloc o).cell? ⟨g, 2, none⟩ = some .nilFunc := fun o => by simp [World.cell?, hgA o]
    have b0 : ∀ o, (wr.alloc o).frozen? ⟨g, 0, none⟩ = false := fun o => by simp [World.frozen?, hgA o]
    have b1 : ∀ o, (wr.alloc o).frozen? ⟨g, 1, none⟩ = false := fun o => by simp [World.frozen?, hgA o]
    have b2 : ∀ o, (wr.alloc o).frozen? ⟨g, 2, none⟩ = false := fun o => by simp [World.frozen?, hgA o]
    have hgO := hide hg
    clear hg hgA
    by_cases h4 : k < 4
    · have h4I : (k : Int) < 4 := by omega
      obtain ⟨c0, c1, c2⟩ := hc.out k h4
      replace c0 := (hQ.out.cell (p := ⟨g + 1, k * 3, none⟩) (lt_of_cell c0)).trans c0
      replace c1 := (hQ.out.cell (p := ⟨g + 1, k * 3 + 1, none⟩) (lt_of_cell c1)).trans c1
      replace c2 := (hQ.out.cell (p := ⟨g + 1, k * 3 + 2, none⟩) (lt_of_cell c2)).trans c2
      have hrk := rAt_rk kind k h4
      have hBr : Below g w wr := HB.out.trans (hQ.out.mono (by omega))
      by_cases he : rk k = kind
      · have hV : ruleV kind = .agg #[.int .i64 (rk k), rm k, rh k] ∧ decide (rAt kind < 4) = true := by
          have h8 := hrk.1 he
          unfold ruleV
          rw [h8, if_pos h4, he]
          exact ⟨rfl, by simpa using h4⟩
        have HV := hide hV
        clear hV hrk
        rcases (by omega : k = 0 ∨ k = 1 ∨ k = 2 ∨ k = 3) with rfl | rfl | rfl | rfl
        · simp only [rk, rm, rh, fnV] at he c0 c1 c2
          subst he
          go_wp2
          have hz3 := fun x y z o => three_cells (after3 hgO.out x y z o)
          refine bodyPost_ret (results_cell_tmp rfl _ _ _ |>.trans (by simp [go_sem, hz3]; rfl)) rfl ⟨by rw [HV.out.1, HV.out.2]; rfl, ?_⟩
          rw [hgw]
          exact (((hBr.setCell (Nat.le_refl _) _).setCell (Nat.le_refl _) _).setCell (Nat.le_refl _) _).alloc (by simp; omega) _
        · simp only [rk, rm, rh, fnV] at he c0 c1 c2
          subst he
          go_wp2
          have hz3 := fun x y z o => three_cells (after3 hgO.out x y z o)
          refine bodyPost_ret (results_cell_tmp rfl _ _ _ |>.trans (by simp [go_sem, hz3]; rfl)) rfl ⟨by rw [HV.out.1, HV.out.2]; rfl, ?_⟩
          rw [hgw]
          exact (((hBr.setCell (Nat.le_refl _) _).setCell (Nat.le_refl _) _).setCell (Nat.le_refl _) _).alloc (by simp; omega) _
        · simp only [rk, rm, rh, fnV] at he c0 c1 c2
          subst he
          go_wp2
          have hz3 := fun x y z o => three_cells (after3 hgO.out x y z o)
          refine bodyPost_ret (results_cell_tmp rfl _ _ _ |>.trans (by simp [go_sem, hz3]; rfl)) rfl ⟨by rw [HV.out.1, HV.out.2]; rfl, ?_⟩
          rw [hgw]
          exact (((hBr.setCell (Nat.le_refl _) _).setCell (Nat.le_refl _) _).setCell (Nat.le_refl _) _).alloc (by simp; omega) _
        · simp only [rk, rm, rh, fnV] at he c0 c1 c2
          subst he
          go_wp2
          have hz3 := fun x y z o => three_cells (after3 hgO.out x y z o)
          refine bodyPost_ret (results_cell_tmp rfl _ _ _ |>.trans (by simp [go_sem, hz3]; rfl)) rfl ⟨by rw [HV.out.1, HV.out.2]; rfl, ?_⟩
          rw [hgw]
          exact (((hBr.setCell (Nat.le_refl _) _).setCell (Nat.le_refl _) _).setCell (Nat.le_refl _) _).alloc (by simp; omega) _
      · have hN2 : Hid (∀ j, j < k + 1 → rk j ≠ kind) := fun j hj => by
          by_cases hjk : j < k
          · exact hN.out j hjk
          · obtain rfl : j = k := by omega
            exact he
        clear hrk hN
        rcases (by omega : k = 0 ∨ k = 1 ∨ k = 2 ∨ k = 3) with rfl | rfl | rfl | rfl
        · simp only [rk, rm, rh, fnV] at he c0 c1 c2
          go_wp2
          go_roundw
          case rel => exact ⟨0 + 1, rfl, by omega, hN2, hQ.out.alloc hQ.out.size _⟩
          case measure => simp [intOf]
        · simp only [rk, rm, rh, fnV] at he c0 c1 c2
          go_wp2
          go_roundw
          case rel => exact ⟨1 + 1, rfl, by omega, hN2, hQ.out.alloc hQ.out.size _⟩
          case measure => simp [intOf]
        · simp only [rk, rm, rh, fnV] at he c0 c1 c2
          go_wp2
          go_roundw
          case rel => exact ⟨2 + 1, rfl, by omega, hN2, hQ.out.alloc hQ.out.size _⟩
          case measure => simp [intOf]
        · simp only [rk, rm, rh, fnV] at he c0 c1 c2
          go_wp2
          go_roundw
          case rel => exact ⟨3 + 1, rfl, by omega, hN2, hQ.out.alloc hQ.out.size _⟩
          case measure => simp [intOf]
    · have h4I : ¬ (k : Int) < 4 := by omega
      obtain rfl : k = 4 := by omega
      have hV : ruleV kind = .agg #[.int .i64 0, .nilFunc, .nilFunc] ∧ decide (rAt kind < 4) = false := by
        have h8 : ¬ rAt kind < 4 := fun h => hN.out (rAt kind) h ((rAt_rk kind _ h).2 rfl)
        unfold ruleV
        rw [if_neg h8]
        exact ⟨rfl, by simpa using h8⟩
      have HV := hide hV
      clear hV
      have hBr : Below g w wr := HB.out.trans (hQ.out.mono (by omega))
      go_wp2
      refine bodyPost_ret (v := .tuple #[.agg #[.int .i64 0, .nilFunc, .nilFunc], .bool false]) (by simp [results, Tryz.results30, go_sem, z0, z1, z2]) rfl ⟨by rw [HV.out.1, HV.out.2], ?_⟩
      try rw [hgw]
      exact ((hBr.setCell (Nat.le_refl _) _).setCell (Nat.le_refl _) _).setCell (Nat.le_refl _) _

end Go.Proofs.YtklchpdpooikdaaGreatDoor
