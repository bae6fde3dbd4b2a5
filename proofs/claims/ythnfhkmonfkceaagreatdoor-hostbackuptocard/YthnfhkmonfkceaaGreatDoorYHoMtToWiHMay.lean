/-
  host.Match: does a pattern stand for a host?
  When a pattern stands for a host, told by small letters. No program.
  A host's name below another one, on lists of bytes. No program.
  within.Below: is a host's name below another one?
  host.rules: the map of the kinds' rules.
  host.May: may a general name be? What it asks of a name's bytes is handed in.
-/
import Derived.Test.YthnfhkmonfkceaaGreatDoorYHoEToHoMm
import Derived.Test.YthnfhkmonfkceaaGreatDoorYTxP4ToSize
import Derived.Lib.Case
import Derived.Maps.Keyed
import Derived.ChangeMaps5
import Derived.Carry
import Derived.Deep.RegionHeld3
namespace Go.Proofs.YthnfhkmonfkceaaGreatDoor
open Go.RowKit Go.Shelf Go.IntWalk

end Go.Proofs.YthnfhkmonfkceaaGreatDoor

namespace Go.Proofs.YthnfhkmonfkceaaGreatDoor

/-- A text with small letters. -/
def smallL (l : List UInt8) : List UInt8 := l.map smallB

theorem small_nat (b : UInt8) : (smallB b).toNat = if 65 ≤ b.toNat ∧ b.toNat ≤ 90 then b.toNat + 32 else b.toNat := by
  have h := small_num b
  have hb := b.toNat_lt
  split at h <;> split <;> omega
theorem fold_eq (x y : UInt8) : Lib.foldEq x y = decide (smallB x = smallB y) := by
  unfold Lib.foldEq
  apply decide_eq_decide.2
  have e : smallB x = smallB y ↔ (smallB x).toNat = (smallB y).toNat := ⟨fun h => by rw [h], fun h => UInt8.toNat_inj.1 h⟩
  rw [e, small_nat, small_nat]
  split <;> split <;> omega
theorem fold_small : ∀ a b : List UInt8, Lib.equalFold a b = decide (smallL a = smallL b)
  | [], [] => rfl
  | [], c :: r => by simp [Lib.equalFold, smallL]
  | c :: r, [] => by simp [Lib.equalFold, smallL]
  | c :: r, d :: q => by
    have ih := fold_small r q
    rw [Bool.eq_iff_iff]
    simp only [Lib.equalFold, fold_eq, ih, smallL, List.map_cons, List.cons.injEq, Bool.and_eq_true, decide_eq_true_eq]
    exact ⟨fun h => ⟨h.1, of_decide_eq_true h.2⟩, fun h => ⟨h.1, decide_eq_true h.2⟩⟩
theorem small_dot (c : UInt8) : smallB c = 46 ↔ c = 46 := by
  have e : ∀ z : UInt8, z = 46 ↔ z.toNat = 46 := fun z => ⟨fun e => by rw [e]; rfl, fun e => UInt8.toNat_inj.1 (by rw [e]; rfl)⟩
  rw [e, e, small_nat]
  split <;> omega
theorem small_labs : ∀ (l acc : List UInt8), labsG (smallL acc) (smallL l) = (labsG acc l).map smallL
  | [], acc => by simp [labsG, smallL]
  | c :: r, acc => by
    show labsG (smallL acc) (smallB c :: smallL r) = _
    rw [labsG, labsG]
    by_cases hc : c = 46
    · rw [if_pos hc, if_pos ((small_dot c).2 hc), List.map_cons, ← small_labs r []]; rfl
    · rw [if_neg hc, if_neg (fun h => hc ((small_dot c).1 h)), ← small_labs r (acc ++ [c])]
      congr 1
      simp [smallL]
theorem labs_inj {a b : List UInt8} (h : labs a = labs b) : a = b := by rw [← join_labs a, ← join_labs b, h]
theorem smallH_len (l : List UInt8) : (smallL l).length = l.length := by simp [smallL]

theorem fold_tail {p s : List UInt8} (hw : wildL p = true) : Lib.equalFold (behL p) (behL s) = decide ((labs (smallL p)).length = (labs (smallL s)).length ∧ (labs (smallL p)).drop 1 = (labs (smallL s)).drop 1) := by
  obtain ⟨r, rfl, hr, hb, _, _⟩ := wild_split hw
  rw [hb, fold_small]
  apply decide_eq_decide.2
  have e1 : labs (smallL (42 :: 46 :: r)) = (labs (42 :: 46 :: r)).map smallL := small_labs _ []
  have e2 : labs (smallL s) = (labs s).map smallL := small_labs _ []
  have e3 : labs (42 :: 46 :: r) = [42] :: labs r := rfl
  have e4 := labs_cut s
  have e5 : (labs r).map smallL = labs (smallL r) := (small_labs r []).symm
  rw [e1, e2, e3]
  by_cases hc : (cutD 46 s).2.2 = true
  · rw [if_pos hc] at e4
    have e6 : labs (cutD 46 s).2.1 = labs (behL s) := rfl
    have e7 : (labs (behL s)).map smallL = labs (smallL (behL s)) := (small_labs _ []).symm
    rw [e4, e6, List.map_cons, List.map_cons, List.drop_succ_cons, List.drop_succ_cons, List.drop_zero, List.drop_zero, e5, e7, List.length_cons, List.length_cons]
    constructor
    · intro h; rw [h]; exact ⟨rfl, rfl⟩
    · intro h; exact labs_inj h.2
  · rw [if_neg hc] at e4
    have e6 : behL s = [] := cutD_no 46 s (by simpa using hc)
    rw [e4, e6, List.map_cons, e5]
    constructor
    · intro h
      exfalso
      have := congrArg List.length h
      rw [smallH_len, smallH_len] at this
      exact dns_ne hr (List.length_eq_zero_iff.1 this)
    · intro h
      exfalso
      have h1 := h.1
      simp at h1
      exact labsG_ne _ _ h1

end Go.Proofs.YthnfhkmonfkceaaGreatDoor

namespace Go.Proofs.YthnfhkmonfkceaaGreatDoor

theorem lower_small (b : UInt8) : Lib.lowerB b = smallB b := by
  apply UInt8.toNat_inj.1
  rw [small_nat]
  have hb := b.toNat_lt
  have hi := Lib.isUpperB_int b
  unfold Lib.lowerB
  rw [hi]
  by_cases h : 65 ≤ b.toNat ∧ b.toNat ≤ 90
  · rw [if_pos h, if_pos (by simp; omega), UInt8.toNat_add]
    simp; omega
  · rw [if_neg h, if_neg (by simp; omega)]
theorem lower_smallL (l : List UInt8) : Lib.toLowerA l = smallL l := by
  unfold Lib.toLowerA smallL
  exact List.map_congr_left fun b _ => lower_small b

/-- Is a below b? -/
def belB (a b : List UInt8) : Bool := dnsL a && (dnsL b && Lib.hasSuffix (smallL (46 :: a)) (smallL (46 :: b)))

theorem suf_iff (a b : List UInt8) : Lib.hasSuffix a b = true ↔ b <:+ a := by unfold Lib.hasSuffix; exact List.isSuffixOf_iff_suffix
theorem bel_iff (a b : List UInt8) : belB a b = true ↔ dnsL a = true ∧ dnsL b = true ∧ smallL (46 :: b) <:+ smallL (46 :: a) := by
  unfold belB
  rw [Bool.and_eq_true, Bool.and_eq_true, suf_iff]
theorem bel_self (a : List UInt8) : belB a a = dnsL a := by
  rw [Bool.eq_iff_iff, bel_iff]
  exact ⟨fun h => h.1, fun h => ⟨h, h, List.suffix_refl _⟩⟩
theorem bel_down {a b c : List UInt8} (h1 : belB a b = true) (h2 : belB b c = true) : belB a c = true := by
  rw [bel_iff] at *
  exact ⟨h1.1, h2.2.1, h2.2.2.trans h1.2.2⟩
theorem suf_both {a b : List UInt8} (h1 : a <:+ b) (h2 : b <:+ a) : a = b := h1.eq_of_length (Nat.le_antisymm h1.length_le h2.length_le)
theorem bel_both (a b : List UInt8) : (belB a b && belB b a) = (matchL a b && dnsL a) := by
  rw [Bool.eq_iff_iff, Bool.and_eq_true, Bool.and_eq_true, bel_iff, bel_iff]
  unfold matchL
  rw [Bool.and_eq_true]
  constructor
  · rintro ⟨⟨ha, hb, h1⟩, _, _, h2⟩
    refine ⟨⟨hb, ?_⟩, ha⟩
    rw [if_pos ha, fold_small, decide_eq_true_eq]
    have := suf_both h2 h1
    exact (List.cons.inj this).2
  · rintro ⟨⟨hb, hm⟩, ha⟩
    rw [if_pos ha, fold_small, decide_eq_true_eq] at hm
    have e : smallL (46 :: a) = smallL (46 :: b) := congrArg (smallB 46 :: ·) hm
    exact ⟨⟨ha, hb, by rw [e]; exact List.suffix_refl _⟩, hb, ha, by rw [e]; exact List.suffix_refl _⟩

/-- Label by label, from the last one on. -/
theorem labsG_app : ∀ (t acc b : List UInt8), labsG acc (t ++ 46 :: b) = labsG acc t ++ labs b
  | [], acc, b => by
    show labsG acc (46 :: b) = [acc] ++ labs b
    rw [labsG, if_pos rfl]
    rfl
  | c :: r, acc, b => by
    show labsG acc (c :: (r ++ 46 :: b)) = _
    rw [labsG, labsG]
    by_cases hc : c = 46
    · rw [if_pos hc, if_pos hc, labsG_app r, List.cons_append]
    · rw [if_neg hc, if_neg hc, labsG_app r]
theorem foldl_dot : ∀ (ws : List (List UInt8)) (x : List UInt8), ws.foldl (fun a v => a ++ [46] ++ v) x = x ++ ws.foldl (fun a v => a ++ [46] ++ v) []
  | ws, x => by
    have := foldl_acc ws x []
    rwa [List.append_nil] at this
theorem foldl_join : ∀ (ws : List (List UInt8)), ws ≠ [] → ws.foldl (fun a v => a ++ [46] ++ v) [] = 46 :: joinL ws
  | [], h => absurd rfl h
  | u :: ws, _ => by
    show ws.foldl (fun a v => a ++ [46] ++ v) ([] ++ [46] ++ u) = 46 :: ws.foldl (fun a v => a ++ [46] ++ v) u
    rw [foldl_acc ws ([] ++ [46]) u]
    rfl
theorem joinL_app (x y : List (List UInt8)) (hx : x ≠ []) (hy : y ≠ []) : joinL (x ++ y) = joinL x ++ 46 :: joinL y := by
  cases x with
  | nil => exact absurd rfl hx
  | cons u r =>
    show (r ++ y).foldl (fun a v => a ++ [46] ++ v) u = r.foldl (fun a v => a ++ [46] ++ v) u ++ 46 :: joinL y
    rw [List.foldl_append, foldl_dot y, foldl_join y hy]
theorem suf_labs (a b : List UInt8) : 46 :: b <:+ 46 :: a ↔ labs b <:+ labs a := by
  have e : labs (46 :: a) = [] :: labs a := by unfold labs; rw [labsG, if_pos rfl]
  constructor
  · rintro ⟨t, ht⟩
    have h := labsG_app t [] b
    rw [ht] at h
    have h2 : [] :: labs a = labs t ++ labs b := by rw [← e]; exact h
    cases hl : labs t with
    | nil => exact absurd hl (labsG_ne _ _)
    | cons u ws =>
      rw [hl, List.cons_append] at h2
      exact ⟨ws, (List.cons.inj h2).2.symm⟩
  · rintro ⟨t, ht⟩
    have h1 : joinL (([] :: t) ++ labs b) = joinL ([] :: t) ++ 46 :: joinL (labs b) := joinL_app _ _ (by simp) (labsG_ne _ _)
    rw [join_labs, List.cons_append, ht, ← e, join_labs] at h1
    exact ⟨_, h1.symm⟩
theorem bel_labs (a b : List UInt8) : belB a b = (dnsL a && (dnsL b && (labs (smallL b)).isSuffixOf (labs (smallL a)))) := by
  unfold belB
  congr 2
  rw [Bool.eq_iff_iff, suf_iff, List.isSuffixOf_iff_suffix, ← suf_labs]
  rfl

end Go.Proofs.YthnfhkmonfkceaaGreatDoor

namespace Go.Proofs.YthnfhkmonfkceaaGreatDoor
open Go.RowKit Go.Shelf Go.IntWalk

theorem tx_catW (a b : List UInt8) : tx a ++ tx b = tx (a ++ b) := by
  apply ByteArray.ext
  apply Array.ext'
  simp [tx]
theorem dot_cat (a : List UInt8) : (⟨#[46]⟩ : ByteArray) ++ tx a = tx (46 :: a) := tx_catW [46] a

/-- What stood in the world w stands, and so does the table that strings.Cut reads. -/
def Kp (w : World) (m : Int) (W : World) : Prop := Below w.heap.size w W ∧ ML W m
theorem Kp.next {w W W' : World} {m : Int} (h : Kp w m W) (hb : Below W.heap.size W W') : Kp w m W' := ⟨h.1.trans (hb.mono h.1.size), h.2.below hb⟩
theorem Kp.refl {w : World} {m : Int} (h : ML w m) : Kp w m w := ⟨Below.refl _ _, h⟩
theorem Kp.own {w0 w : World} {m : Int} (h : Kp w0 m w) {W' : World} (h2 : Kp w m W') : Kp w0 m W' := h.next h2.1

end Go.Proofs.YthnfhkmonfkceaaGreatDoor

namespace Go.Proofs.YthnfhkmonfkceaaGreatDoor
open Go.RowKit Go.Shelf Go.IntWalk
open Go.ChangeMaps (setBlock heap_setBlock_same)

theorem Tryz.infoF : (Tryz.prog.info? 35).map (fun i => i.zero) = some (some .nilFunc) := by kernel_rfl
theorem klaw : Go.Maps.Keyed Tryz.prog 3 := Go.Maps.int_keyed Tryz.underlying3
theorem kof {a : Int} (h : (Lit.int .i64 a).wf = true) : keyOf Tryz.prog 3 (.int .i64 a) = some (.int .i64 a) := Go.Maps.keyOf_int_mk Tryz.underlying3 h

/-- A new key is laid behind the others. -/
theorem put_new {w : World} {b : Nat} {es : Array MapEntry} {clock : Nat} (hb : w.heap[b]? = some (.map es clock)) (k : Int) (v : Value) (hk : (Lit.int .i64 k).wf = true)
    (hes : ∀ e ∈ es.toList, ∃ j : Int, e.key = .int .i64 j ∧ (Lit.int .i64 j).wf = true ∧ j ≠ k) :
    (Instr.mapUpdate 46 (.map (some b)) (.int .i64 k) v).run Tryz.prog w = .ok () (setBlock w b (.map (es.push ⟨.int .i64 k, v, clock⟩) (clock + 1))) := by
  rcases klaw.find w (kof hk) es.toList (fun e he => by obtain ⟨j, h1, h2, _⟩ := hes e he; exact ⟨_, by rw [h1]; exact kof h2⟩) with ⟨h1, h2⟩ | ⟨j, e0, h1, h2, h3⟩
  · simp [Instr.mapUpdate, run_underlying Tryz.underlying46, MapKept.run_getObj_map hb, klaw.check w false (kof hk), h1, MapKept.run_setObj_map _ hb, Result.andThen, setBlock]
  · obtain ⟨i, k1, _, k3⟩ := hes e0 (List.mem_of_getElem? h2)
    rw [k1] at h3
    cases h3
    exact absurd rfl k3

/-- What is found at a key. -/
theorem look_yes {w : World} {b : Nat} {es : Array MapEntry} {clock : Nat} (hb : w.heap[b]? = some (.map es clock)) (k : Int) (v : Value) (hk : (Lit.int .i64 k).wf = true)
    (hes : ∀ e ∈ es.toList, ∃ j : Int, e.key = .int .i64 j ∧ (Lit.int .i64 j).wf = true) (hv : ∀ e ∈ es.toList, e.key = .int .i64 k → e.val = v) (hx : ∃ e ∈ es.toList, e.key = .int .i64 k) :
    (Instr.lookup 46 (.map (some b)) (.int .i64 k) true).run Tryz.prog w = .ok (.tuple #[v, .bool true]) w := by
  rcases klaw.find w (kof hk) es.toList (fun e he => by obtain ⟨j, h1, h2⟩ := hes e he; exact ⟨_, by rw [h1]; exact kof h2⟩) with ⟨h1, h2⟩ | ⟨j, e0, h1, h2, h3⟩
  · obtain ⟨e, k1, k2⟩ := hx
    exact absurd k2 (h2 e k1)
  · have h4 := hv e0 (List.mem_of_getElem? h2) h3
    simp [Instr.lookup, run_underlying Tryz.underlying46, MapKept.run_getObj_map hb, klaw.check w _ (kof hk), h1, h4, Result.andThen]
set_option maxRecDepth 100000 in
theorem look_no {w : World} {b : Nat} {es : Array MapEntry} {clock : Nat} (hb : w.heap[b]? = some (.map es clock)) (k : Int) (hk : (Lit.int .i64 k).wf = true)
    (hes : ∀ e ∈ es.toList, ∃ j : Int, e.key = .int .i64 j ∧ (Lit.int .i64 j).wf = true) (hx : ∀ e ∈ es.toList, e.key ≠ .int .i64 k) :
    (Instr.lookup 46 (.map (some b)) (.int .i64 k) true).run Tryz.prog w = .ok (.tuple #[.nilFunc, .bool false]) w := by
  rcases klaw.find w (kof hk) es.toList (fun e he => by obtain ⟨j, h1, h2⟩ := hes e he; exact ⟨_, by rw [h1]; exact kof h2⟩) with ⟨h1, h2⟩ | ⟨j, e0, h1, h2, h3⟩
  · have hz : (zeroValue 35).run Tryz.prog w = .ok .nilFunc w := by
      obtain ⟨i, hi, hz⟩ : ∃ i, Tryz.prog.info? 35 = some i ∧ i.zero = some .nilFunc := by
        have h9 := Tryz.infoF
        cases hi : Tryz.prog.info? 35 with
        | none => rw [hi] at h9; cases h9
        | some i => rw [hi] at h9; exact ⟨i, rfl, by simpa using h9⟩
      simp [zeroValue, typeInfo, hi, hz, Result.andThen, go_sem]
    simp [Instr.lookup, run_underlying Tryz.underlying46, MapKept.run_getObj_map hb, klaw.check w _ (kof hk), h1, hz, Result.andThen]
  · exact absurd h3 (hx e0 (List.mem_of_getElem? h2))

theorem nbelowW (W : World) (o : Obj) : Below W.heap.size W (W.alloc o) := (Below.refl _ _).alloc (Nat.le_refl _) _
def fnV (f : Nat) : Value := .func (.func f) #[] #[]
/-- The map of the rules. -/
def rulesM : Array MapEntry := #[⟨.int .i64 1, fnV 24, 0⟩, ⟨.int .i64 2, fnV 40, 1⟩, ⟨.int .i64 4, fnV 41, 2⟩, ⟨.int .i64 7, fnV 25, 3⟩]
theorem rules_keys : ∀ e ∈ rulesM.toList, ∃ j : Int, e.key = .int .i64 j ∧ (Lit.int .i64 j).wf = true := by
  intro e he
  simp [rulesM] at he
  rcases he with rfl | rfl | rfl | rfl <;> exact ⟨_, rfl, by decide⟩

theorem below_set {base : Nat} {w W : World} (h : Below base w W) {b : Nat} (hb : base ≤ b) (o : Obj) : Below base w (setBlock W b o) :=
  ⟨h.os, h.tape, h.output, by show w.heap.size ≤ (W.heap.setIfInBounds b o).size; rw [Array.size_setIfInBounds]; exact h.size, fun k hk => by
    show (W.heap.setIfInBounds b o)[k]? = _
    rw [Array.getElem?_setIfInBounds_ne (by omega)]
    exact h.block k hk⟩

set_option maxRecDepth 100000 in
set_option maxHeartbeats 1000000 in
theorem hrules_any (w : World) : Calls Tryz.prog 17 #[] w fun e w' => ∃ b, e = .returned (.map (some b)) ∧ w'.heap[b]? = some (.map rulesM 4) ∧ Below w.heap.size w w' := by
  have h0 := @run_makeMap Tryz.prog 46 w
  have hb0 : (w.alloc (.map #[] 0)).heap[w.heap.size]? = some (.map #[] 0) := heap_alloc_new w _
  have B0 := nbelowW w (.map #[] 0)
  generalize w.alloc (.map #[] 0) = W0 at h0 hb0 B0
  have h1 := put_new hb0 1 (fnV 24) (by decide) (by intro e he; simp at he)
  have hb1 := heap_setBlock_same hb0 (.map (#[].push ⟨.int .i64 1, fnV 24, 0⟩) (0 + 1))
  have B1 := below_set B0 (Nat.le_refl _) (.map (#[].push ⟨.int .i64 1, fnV 24, 0⟩) (0 + 1))
  generalize setBlock W0 w.heap.size _ = W1 at h1 hb1 B1
  have h2 := put_new hb1 2 (fnV 40) (by decide) (by intro e he; simp at he; subst he; exact ⟨_, rfl, by decide, by decide⟩)
  have hb2 := heap_setBlock_same hb1 (.map ((#[].push ⟨.int .i64 1, fnV 24, 0⟩).push ⟨.int .i64 2, fnV 40, 0 + 1⟩) (0 + 1 + 1))
  have B2 := below_set B1 (Nat.le_refl _) (.map ((#[].push ⟨.int .i64 1, fnV 24, 0⟩).push ⟨.int .i64 2, fnV 40, 0 + 1⟩) (0 + 1 + 1))
  generalize setBlock W1 w.heap.size _ = W2 at h2 hb2 B2
  have h3 := put_new hb2 4 (fnV 41) (by decide) (by intro e he; simp at he; rcases he with rfl | rfl <;> exact ⟨_, rfl, by decide, by decide⟩)
  have hb3 := heap_setBlock_same hb2 (.map (((#[].push ⟨.int .i64 1, fnV 24, 0⟩).push ⟨.int .i64 2, fnV 40, 0 + 1⟩).push ⟨.int .i64 4, fnV 41, 0 + 1 + 1⟩) (0 + 1 + 1 + 1))
  have B3 := below_set B2 (Nat.le_refl _) (.map (((#[].push ⟨.int .i64 1, fnV 24, 0⟩).push ⟨.int .i64 2, fnV 40, 0 + 1⟩).push ⟨.int .i64 4, fnV 41, 0 + 1 + 1⟩) (0 + 1 + 1 + 1))
  generalize setBlock W2 w.heap.size _ = W3 at h3 hb3 B3
  have h4 := put_new hb3 7 (fnV 25) (by decide) (by intro e he; simp at he; rcases he with rfl | rfl | rfl <;> exact ⟨_, rfl, by decide, by decide⟩)
  have hb4 := heap_setBlock_same hb3 (.map ((((#[].push ⟨.int .i64 1, fnV 24, 0⟩).push ⟨.int .i64 2, fnV 40, 0 + 1⟩).push ⟨.int .i64 4, fnV 41, 0 + 1 + 1⟩).push ⟨.int .i64 7, fnV 25, 0 + 1 + 1 + 1⟩) (0 + 1 + 1 + 1 + 1))
  have B4 := below_set B3 (Nat.le_refl _) (.map ((((#[].push ⟨.int .i64 1, fnV 24, 0⟩).push ⟨.int .i64 2, fnV 40, 0 + 1⟩).push ⟨.int .i64 4, fnV 41, 0 + 1 + 1⟩).push ⟨.int .i64 7, fnV 25, 0 + 1 + 1 + 1⟩) (0 + 1 + 1 + 1 + 1))
  generalize setBlock W3 w.heap.size _ = W4 at h4 hb4 B4
  have R := hide (And.intro hb4 B4)
  clear hb0 B0 hb1 B1 hb2 B2 hb3 B3 hb4 B4
  unfold fnV at h1 h2 h3 h4
  go_enter Tryz.func17, Tryz.ntmps17
  go_wp2
  go_ret
  exact ⟨_, rfl, R.out.1, R.out.2⟩

end Go.Proofs.YthnfhkmonfkceaaGreatDoor

namespace Go.Proofs.YthnfhkmonfkceaaGreatDoor
open Go.RowKit Go.Shelf Go.IntWalk

/-- May a general name be? N: are its bytes a name's? -/
def hmay (kind : Int) (s : List UInt8) (N : Bool) : Bool := if kind = 1 then mailL s else if kind = 2 then (dnsL s || wildL s) else if kind = 4 then N else if kind = 7 then ipL s else false

set_option maxRecDepth 100000 in
theorem dnsOrWild_kp (w0 : World) (s : List UInt8) (hs : s.length ≤ 1048576) (m : Int) (w : World) (hm : Kp w0 m w) :
    Calls Tryz.prog 40 #[.string (tx s)] w fun e w' => e = .returned (.bool (dnsL s || wildL s)) ∧ Kp w0 m w' := by
  have d1 := hide (dns_any s hs m w hm.2)
  have d2 : Hid (∀ W, Kp w0 m W → Calls Tryz.prog 23 #[.string (tx s)] W fun e W' => e = .returned (.bool (wildL s)) ∧ Kp w0 m W') := fun W h => (wild_any s hs m W h.2).mono fun e W' ⟨h1, h2⟩ => ⟨h1, h.next h2⟩
  have HM := hide hm
  clear hm
  generalize dnsL s = D at *
  generalize wildL s = Wd at *
  cases D with
  | true =>
    go_enter Tryz.func40, Tryz.ntmps40
    go_wp2_with fail
    refine d1.out.mono ?_
    rintro e w1 ⟨rfl, B1⟩
    go_wp2
    go_ret
    exact ⟨rfl, HM.out.next B1⟩
  | false =>
    go_enter Tryz.func40, Tryz.ntmps40
    go_wp2_with fail
    refine d1.out.mono ?_
    rintro e w1 ⟨rfl, B1⟩
    go_wp2_with fail
    refine (d2.out _ (HM.out.next B1)).mono ?_
    rintro e w2 ⟨rfl, K2⟩
    go_wp2
    go_ret
    exact ⟨by simp, K2⟩

set_option maxRecDepth 100000 in
set_option maxHeartbeats 2000000 in
theorem hmay_kp (w0 : World) (kind : Int) (hkind : (Lit.int .i64 kind).wf = true) (s : List UInt8) (hs : s.length ≤ 1048576) (N : Bool) (m : Int)
    (hN : kind = 4 → ∀ W, Kp w0 m W → Calls Tryz.prog 41 #[.string (tx s)] W fun e W' => e = .returned (.bool N) ∧ Kp w0 m W') (w : World) (hm : Kp w0 m w) :
    Calls Tryz.prog 8 #[.agg #[.int .i64 kind, .string (tx s)]] w fun e w' => e = .returned (.bool (hmay kind s N)) ∧ Kp w0 m w' := by
  by_cases h1 : kind = 1
  · subst h1
    have D : Hid (∀ W, Kp w0 m W → Calls Tryz.prog 24 #[.string (tx s)] W fun e W' => e = .returned (.bool (hmay 1 s N)) ∧ Kp w0 m W') := fun W h => (email_any s hs m W h.2).mono fun e W' ⟨k1, k2⟩ => ⟨k1, h.next k2⟩
    have LK : Hid (∀ W b, W.heap[b]? = some (.map rulesM 4) → (Instr.lookup 46 (.map (some b)) (.int .i64 1) true).run Tryz.prog W = .ok (.tuple #[fnV 24, .bool true]) W) := fun W b hb =>
      look_yes hb 1 _ (by decide) rules_keys (by intro e he hk; simp [rulesM] at he; rcases he with rfl | rfl | rfl | rfl <;> first | rfl | (exfalso; revert hk; simp)) ⟨⟨.int .i64 1, fnV 24, 0⟩, by simp [rulesM], rfl⟩
    unfold fnV at LK
    generalize hkd : (1 : Int) = kind at *
    have BX := nbelowW w (.cells #[.int .i64 kind, .string (tx s)] 23)
    have c0 : (w.alloc (.cells #[.int .i64 kind, .string (tx s)] 23)).cell? ⟨w.heap.size, 0, none⟩ = some (.int .i64 kind) := by simp
    have c1 : (w.alloc (.cells #[.int .i64 kind, .string (tx s)] 23)).cell? ⟨w.heap.size, 1, none⟩ = some (.string (tx s)) := by simp
    have KX := hide (hm.next BX)
    go_enter Tryz.func8, Tryz.ntmps8
    go_wp2_with fail
    go_region_held3 (fun W => W.cell? ⟨w.heap.size, 0, none⟩ = some (.int .i64 kind) ∧ W.cell? ⟨w.heap.size, 1, none⟩ = some (.string (tx s))) (go_keep) (first | (go_at_call 17; refine (hrules_any _).mono ?_; rintro e w1 ⟨b, rfl, hb, B1⟩; have lk := LK.out w1 b hb; have k0 := (B1.cell (p := ⟨w.heap.size, 0, none⟩) (lt_of_cell c0)).trans c0; have k1 := (B1.cell (p := ⟨w.heap.size, 1, none⟩) (lt_of_cell c1)).trans c1))
    have K1 := hide ((KX.out.next ((Below.refl _ _).drew)).next B1)
    clear B1 BX hb KX
    go_wp2_with fail
    refine (D.out _ K1.out).mono ?_
    rintro e w2 ⟨rfl, K2⟩
    go_wp2
    go_ret
    exact ⟨rfl, K2⟩
  by_cases h2 : kind = 2
  · subst h2
    have D : Hid (∀ W, Kp w0 m W → Calls Tryz.prog 40 #[.string (tx s)] W fun e W' => e = .returned (.bool (hmay 2 s N)) ∧ Kp w0 m W') := dnsOrWild_kp w0 s hs m
    have LK : Hid (∀ W b, W.heap[b]? = some (.map rulesM 4) → (Instr.lookup 46 (.map (some b)) (.int .i64 2) true).run Tryz.prog W = .ok (.tuple #[fnV 40, .bool true]) W) := fun W b hb =>
      look_yes hb 2 _ (by decide) rules_keys (by intro e he hk; simp [rulesM] at he; rcases he with rfl | rfl | rfl | rfl <;> first | rfl | (exfalso; revert hk; simp)) ⟨⟨.int .i64 2, fnV 40, 1⟩, by simp [rulesM], rfl⟩
    unfold fnV at LK
    generalize hkd : (2 : Int) = kind at *
    have BX := nbelowW w (.cells #[.int .i64 kind, .string (tx s)] 23)
    have c0 : (w.alloc (.cells #[.int .i64 kind, .string (tx s)] 23)).cell? ⟨w.heap.size, 0, none⟩ = some (.int .i64 kind) := by simp
    have c1 : (w.alloc (.cells #[.int .i64 kind, .string (tx s)] 23)).cell? ⟨w.heap.size, 1, none⟩ = some (.string (tx s)) := by simp
    have KX := hide (hm.next BX)
    go_enter Tryz.func8, Tryz.ntmps8
    go_wp2_with fail
    go_region_held3 (fun W => W.cell? ⟨w.heap.size, 0, none⟩ = some (.int .i64 kind) ∧ W.cell? ⟨w.heap.size, 1, none⟩ = some (.string (tx s))) (go_keep) (first | (go_at_call 17; refine (hrules_any _).mono ?_; rintro e w1 ⟨b, rfl, hb, B1⟩; have lk := LK.out w1 b hb; have k0 := (B1.cell (p := ⟨w.heap.size, 0, none⟩) (lt_of_cell c0)).trans c0; have k1 := (B1.cell (p := ⟨w.heap.size, 1, none⟩) (lt_of_cell c1)).trans c1))
    have K1 := hide ((KX.out.next ((Below.refl _ _).drew)).next B1)
    clear B1 BX hb KX
    go_wp2_with fail
    refine (D.out _ K1.out).mono ?_
    rintro e w2 ⟨rfl, K2⟩
    go_wp2
    go_ret
    exact ⟨rfl, K2⟩
  by_cases h4 : kind = 4
  · subst h4
    have D : Hid (∀ W, Kp w0 m W → Calls Tryz.prog 41 #[.string (tx s)] W fun e W' => e = .returned (.bool (hmay 4 s N)) ∧ Kp w0 m W') := hN rfl
    have LK : Hid (∀ W b, W.heap[b]? = some (.map rulesM 4) → (Instr.lookup 46 (.map (some b)) (.int .i64 4) true).run Tryz.prog W = .ok (.tuple #[fnV 41, .bool true]) W) := fun W b hb =>
      look_yes hb 4 _ (by decide) rules_keys (by intro e he hk; simp [rulesM] at he; rcases he with rfl | rfl | rfl | rfl <;> first | rfl | (exfalso; revert hk; simp)) ⟨⟨.int .i64 4, fnV 41, 2⟩, by simp [rulesM], rfl⟩
    unfold fnV at LK
    generalize hkd : (4 : Int) = kind at *
    have BX := nbelowW w (.cells #[.int .i64 kind, .string (tx s)] 23)
    have c0 : (w.alloc (.cells #[.int .i64 kind, .string (tx s)] 23)).cell? ⟨w.heap.size, 0, none⟩ = some (.int .i64 kind) := by simp
    have c1 : (w.alloc (.cells #[.int .i64 kind, .string (tx s)] 23)).cell? ⟨w.heap.size, 1, none⟩ = some (.string (tx s)) := by simp
    have KX := hide (hm.next BX)
    go_enter Tryz.func8, Tryz.ntmps8
    go_wp2_with fail
    go_region_held3 (fun W => W.cell? ⟨w.heap.size, 0, none⟩ = some (.int .i64 kind) ∧ W.cell? ⟨w.heap.size, 1, none⟩ = some (.string (tx s))) (go_keep) (first | (go_at_call 17; refine (hrules_any _).mono ?_; rintro e w1 ⟨b, rfl, hb, B1⟩; have lk := LK.out w1 b hb; have k0 := (B1.cell (p := ⟨w.heap.size, 0, none⟩) (lt_of_cell c0)).trans c0; have k1 := (B1.cell (p := ⟨w.heap.size, 1, none⟩) (lt_of_cell c1)).trans c1))
    have K1 := hide ((KX.out.next ((Below.refl _ _).drew)).next B1)
    clear B1 BX hb KX
    go_wp2_with fail
    refine (D.out _ K1.out).mono ?_
    rintro e w2 ⟨rfl, K2⟩
    go_wp2
    go_ret
    exact ⟨rfl, K2⟩
  by_cases h7 : kind = 7
  · subst h7
    have D : Hid (∀ W, Kp w0 m W → Calls Tryz.prog 25 #[.string (tx s)] W fun e W' => e = .returned (.bool (hmay 7 s N)) ∧ Kp w0 m W') := fun W h => (ip_any s W).mono fun e W' ⟨k1, k2⟩ => ⟨k1, by rw [k2]; exact h⟩
    have LK : Hid (∀ W b, W.heap[b]? = some (.map rulesM 4) → (Instr.lookup 46 (.map (some b)) (.int .i64 7) true).run Tryz.prog W = .ok (.tuple #[fnV 25, .bool true]) W) := fun W b hb =>
      look_yes hb 7 _ (by decide) rules_keys (by intro e he hk; simp [rulesM] at he; rcases he with rfl | rfl | rfl | rfl <;> first | rfl | (exfalso; revert hk; simp)) ⟨⟨.int .i64 7, fnV 25, 3⟩, by simp [rulesM], rfl⟩
    unfold fnV at LK
    generalize hkd : (7 : Int) = kind at *
    have BX := nbelowW w (.cells #[.int .i64 kind, .string (tx s)] 23)
    have c0 : (w.alloc (.cells #[.int .i64 kind, .string (tx s)] 23)).cell? ⟨w.heap.size, 0, none⟩ = some (.int .i64 kind) := by simp
    have c1 : (w.alloc (.cells #[.int .i64 kind, .string (tx s)] 23)).cell? ⟨w.heap.size, 1, none⟩ = some (.string (tx s)) := by simp
    have KX := hide (hm.next BX)
    go_enter Tryz.func8, Tryz.ntmps8
    go_wp2_with fail
    go_region_held3 (fun W => W.cell? ⟨w.heap.size, 0, none⟩ = some (.int .i64 kind) ∧ W.cell? ⟨w.heap.size, 1, none⟩ = some (.string (tx s))) (go_keep) (first | (go_at_call 17; refine (hrules_any _).mono ?_; rintro e w1 ⟨b, rfl, hb, B1⟩; have lk := LK.out w1 b hb; have k0 := (B1.cell (p := ⟨w.heap.size, 0, none⟩) (lt_of_cell c0)).trans c0; have k1 := (B1.cell (p := ⟨w.heap.size, 1, none⟩) (lt_of_cell c1)).trans c1))
    have K1 := hide ((KX.out.next ((Below.refl _ _).drew)).next B1)
    clear B1 BX hb KX
    go_wp2_with fail
    refine (D.out _ K1.out).mono ?_
    rintro e w2 ⟨rfl, K2⟩
    go_wp2
    go_ret
    exact ⟨rfl, K2⟩
  have hF : Hid (hmay kind s N = false) := by unfold Hid hmay; rw [if_neg h1, if_neg h2, if_neg h4, if_neg h7]
  have LK : Hid (∀ W b, W.heap[b]? = some (.map rulesM 4) → (Instr.lookup 46 (.map (some b)) (.int .i64 kind) true).run Tryz.prog W = .ok (.tuple #[.nilFunc, .bool false]) W) := fun W b hb =>
    look_no hb kind hkind rules_keys (by intro e he hk; simp [rulesM] at he; rcases he with rfl | rfl | rfl | rfl <;> (simp at hk; omega))
  have BX := nbelowW w (.cells #[.int .i64 kind, .string (tx s)] 23)
  have c0 : (w.alloc (.cells #[.int .i64 kind, .string (tx s)] 23)).cell? ⟨w.heap.size, 0, none⟩ = some (.int .i64 kind) := by simp
  have c1 : (w.alloc (.cells #[.int .i64 kind, .string (tx s)] 23)).cell? ⟨w.heap.size, 1, none⟩ = some (.string (tx s)) := by simp
  have KX := hide (hm.next BX)
  go_enter Tryz.func8, Tryz.ntmps8
  go_wp2_with fail
  go_region_held3 (fun W => W.cell? ⟨w.heap.size, 0, none⟩ = some (.int .i64 kind) ∧ W.cell? ⟨w.heap.size, 1, none⟩ = some (.string (tx s))) (go_keep) (first | (go_at_call 17; refine (hrules_any _).mono ?_; rintro e w1 ⟨b, rfl, hb, B1⟩; have lk := LK.out w1 b hb; have k0 := (B1.cell (p := ⟨w.heap.size, 0, none⟩) (lt_of_cell c0)).trans c0; have k1 := (B1.cell (p := ⟨w.heap.size, 1, none⟩) (lt_of_cell c1)).trans c1))
  have K1 := hide ((KX.out.next ((Below.refl _ _).drew)).next B1)
  clear B1 BX hb KX
  go_wp2
  go_ret
  exact ⟨by rw [hF.out]; rfl, K1.out⟩

end Go.Proofs.YthnfhkmonfkceaaGreatDoor
