/-
  Lent attributes: a row of attributes of the call's own, with a mark behind it.
  The statements' own calls lent, kept, names, works.
-/
import Derived.Maps.AppendAt
import Derived.Laws.AppendOwnNone
import Derived.Test.YtgbbgfjamneioaaDoorXNmPaMToNmRef
import Derived.Test.YtgbbgfjamneioaaDoorXNmThereToNmMay
namespace Go.Proofs.YtgbbgfjamneioaaDoor
open Go.RowKit Go.IntWalk Go.Shelf

/-- The cells of a row of attributes. -/
def acells : List (Int × ByteArray) → List Value
  | [] => []
  | x :: r => .int .i64 x.1 :: .string x.2 :: acells r
theorem acells_len : ∀ xs, (acells xs).length = xs.length * 2
  | [] => rfl
  | x :: r => by rw [acells, List.length_cons, List.length_cons, acells_len r, List.length_cons]; omega
theorem acells_app : ∀ xs ys, acells (xs ++ ys) = acells xs ++ acells ys
  | [], _ => rfl
  | x :: r, ys => by rw [List.cons_append, acells, acells_app r ys]; rfl
theorem acells_at : ∀ (xs : List (Int × ByteArray)) (i : Nat), i < xs.length → (acells xs)[i * 2]? = some (.int .i64 (xs.getD i (0, ByteArray.empty)).1) ∧ (acells xs)[i * 2 + 1]? = some (.string (xs.getD i (0, ByteArray.empty)).2)
  | x :: r, 0, _ => ⟨rfl, rfl⟩
  | x :: r, i + 1, h => by
    have ih := acells_at r i (by simpa using h)
    rw [show (i + 1) * 2 = i * 2 + 1 + 1 by omega, acells]
    simpa using ih
theorem acells_one : ∀ (xs : List (Int × ByteArray)), ∀ u ∈ acells xs, u.oneCell' = true
  | x :: r, u, h => by
    rw [acells] at h
    rcases List.mem_cons.1 h with rfl | h
    · rfl
    · rcases List.mem_cons.1 h with rfl | h
      · rfl
      · exact acells_one r u h

/-- A row of attributes that the call owns. -/
def OwnA (w : World) (base : Nat) (v : Value) (xs : List (Int × ByteArray)) : Prop := w.ownsRow base 52 2 v xs.length (acells xs)
theorem OwnA.lit (w : World) (base : Nat) (hb : base ≤ w.heap.size) : OwnA (w.alloc (.cells #[] 52)) base (.slice (some ⟨w.heap.size, 0, none⟩) 0 0) [] :=
  ⟨rfl, .inr ⟨w.heap.size, 0, #[], rfl, hb, heap_alloc_new w _, Nat.le_refl _, by decide, rfl, rfl⟩⟩
theorem OwnA.cell {w : World} {base g n c : Nat} {xs : List (Int × ByteArray)} (h : OwnA w base (.slice (some ⟨g, 0, none⟩) n c) xs) (i : Nat) (hi : i < xs.length) :
    w.cell? ⟨g, i * 2, none⟩ = some (.int .i64 (xs.getD i (0, ByteArray.empty)).1) ∧ w.cell? ⟨g, i * 2 + 1, none⟩ = some (.string (xs.getD i (0, ByteArray.empty)).2) := by
  obtain ⟨h1, h2⟩ := acells_at xs i hi
  have c1 := h.cells (g := g) rfl _ _ h1
  have c2 := h.cells (g := g) rfl _ _ h2
  rw [add_none, Nat.zero_add] at c1 c2
  exact ⟨c1, c2⟩
theorem Ats.src {w : World} {ad : Addr} {n cap : Nat} {xs : List (Int × ByteArray)} (h : Ats w (some ad) n cap xs) : ∀ j u, (acells xs)[j]? = some u → w.cell? (ad.add j) = some u := by
  intro j u hj
  have hl := h.hl
  have hjl : j < xs.length * 2 := by
    rcases Nat.lt_or_ge j (xs.length * 2) with h' | h'
    · exact h'
    · rw [List.getElem?_eq_none (by rw [acells_len]; exact h')] at hj; cases hj
  obtain ⟨b, off, he, hc⟩ := h.hrd (by omega)
  cases he
  obtain ⟨k1, k2⟩ := hc (j / 2) (by omega)
  obtain ⟨a1, a2⟩ := acells_at xs (j / 2) (by omega)
  rw [add_none]
  rcases Nat.mod_two_eq_zero_or_one j with hm | hm
  · have e : j / 2 * 2 = j := by omega
    rw [e] at a1 k1
    rw [a1] at hj
    rw [k1]
    exact hj
  · have e : j / 2 * 2 + 1 = j := by omega
    have e2 : off + j / 2 * 2 + 1 = off + j := by omega
    rw [e] at a2
    rw [e2] at k2
    rw [a2] at hj
    rw [k2]
    exact hj

theorem Tryd.infoA : (Tryd.prog.info? 52).map (fun i => (i.zero, i.size, i.bytes)) = some (some (.agg #[.int .i64 0, .string ⟨#[]⟩]), 2, 24) := by kernel_rfl

/-- 'append(v, x...)' of attributes. -/
theorem wpList_appA {ops : Array Oper} {rest : List Oper} {o : Oper} {a : Act} {Q : Exit → Act → World → Prop} (w : World) (hgd : o.guard = none) (s x : Operand)
    (ho : o.op = .call { callee := .builtin .append, args := #[s, x], argTypes := #[23, 23] })
    (base : Nat) (v : Value) (xs : List (Int × ByteArray)) (hs : a.eval s = v) (hown : OwnA w base v xs) (hne : v ≠ .slice none 0 0)
    (ao : Option Addr) (m c : Nat) (ys : List (Int × ByteArray)) (hx : a.eval x = .slice ao m c) (hsrc : Ats w ao m c ys) (hnil : ao = none → m = 0 ∧ c = 0)
    (t : Nat) (ht : xs.length + m = t) (hb : t ≤ 2097152) (hbase : base ≤ w.heap.size)
    (h : ∀ g c' w', OwnA w' base (.slice (some ⟨g, 0, none⟩) t c') (xs ++ ys) → base ≤ g → t ≤ c' → c' ≤ maxLen → w.grownBy w' v.ownBlock → (v.ownBlock = some g ∨ g = w.heap.size) → wpList Tryd.prog ops Q rest (a.put o.dst (.slice (some ⟨g, 0, none⟩) t c')) w') :
    wpList Tryd.prog ops Q (o :: rest) a w := by
  subst ht
  have hl := hsrc.hl
  have hly : (xs ++ ys).length = xs.length + m := by rw [List.length_append, hl]
  have main : ∀ v' w', OwnA w' base v' (xs ++ ys) → w.grownBy w' v.ownBlock → (v' ≠ .slice none 0 0) → (v'.ownBlock = v.ownBlock ∨ v'.ownBlock = some w.heap.size) → wpList Tryd.prog ops Q rest (a.put o.dst v') w' := by
    intro v' w' h1 h2 h3 h4
    have h1' := h1
    obtain ⟨_, ⟨h5, _⟩ | ⟨g, cap, cur, hv, hb', _, hn, hmx, _⟩⟩ := h1'
    · exact absurd h5 h3
    · rw [hly] at hv hn
      subst hv
      refine h g cap w' h1 hb' hn hmx h2 ?_
      rcases h4 with h4 | h4
      · exact .inl h4.symm
      · exact .inr (by simpa [Value.ownBlock] using h4)
  obtain ⟨i0, hi, hz0, hz1, hz2⟩ := info_parts Tryd.infoA
  cases ao with
  | none =>
    obtain ⟨rfl, rfl⟩ := hnil rfl
    obtain rfl : ys = [] := List.eq_nil_of_length_eq_zero hl
    refine wpList_append_own_none hgd s x 23 ho base 52 i0 2 Tryd.underlying23 hi v _ _ hs hown hx ?_
    exact main v w (by simpa using hown) ⟨rfl, rfl, rfl, Nat.le_refl _, fun _ _ _ => rfl⟩ hne (.inl rfl)
  | some ad =>
    refine wpList_append_own_at (w := w) hgd s x 23 ho base 52 i0 _ 2 24 Tryd.underlying23 hi hz0 hz1 hz2 rfl (by decide) v _ _ hs hown ad m c (acells ys) hx (by rw [acells_len, hl]) hsrc.src (acells_one ys) (by unfold maxLen; omega) (by omega) hbase ?_
    intro v' w' h1 h2 h3 h4
    refine main v' w' ?_ h2 (fun hv => hne (h3.1 hv).1) h4
    unfold OwnA
    rw [hly, acells_app]
    exact h1

/-- A lent row: the attributes, the mark behind them. -/
structure LentA (w : World) (base g n c : Nat) (xs : List (Int × ByteArray)) : Prop where
  hb : base ≤ g
  hn : xs.length = n
  hc : n + 1 ≤ c
  hm : c ≤ maxLen
  hz : ∀ x ∈ xs, x.2.size ≤ 1048576
  cells : ∀ i, i < n → w.cell? ⟨g, i * 2, none⟩ = some (.int .i64 (xs.getD i (0, ByteArray.empty)).1) ∧ w.cell? ⟨g, i * 2 + 1, none⟩ = some (.string (xs.getD i (0, ByteArray.empty)).2)
  mark : w.cell? ⟨g, n * 2, none⟩ = some (.int .i64 77)
  markV : w.cell? ⟨g, n * 2 + 1, none⟩ = some (.string ByteArray.empty)

theorem LentA.below {w w' : World} {base g n c : Nat} {xs : List (Int × ByteArray)} (h : LentA w base g n c xs) (hb : Below w.heap.size w w') : LentA w' base g n c xs := by
  have k : ∀ {p : Addr} {v : Value}, w.cell? p = some v → w'.cell? p = some v := fun {p v} e => (hb.cell (lt_of_cell e)).trans e
  exact ⟨h.hb, h.hn, h.hc, h.hm, h.hz, fun i hi => ⟨k (h.cells i hi).1, k (h.cells i hi).2⟩, k h.mark, k h.markV⟩
theorem LentA.ats {w : World} {base g n c : Nat} {xs : List (Int × ByteArray)} (h : LentA w base g n c xs) : Ats w (some ⟨g, 0, none⟩) n c xs := by
  have hc := h.hc
  refine ⟨h.hn, by omega, h.hm, fun x hx => by have := h.hz x hx; omega, fun _ => ⟨g, 0, rfl, fun i hi => ?_⟩⟩
  rw [Nat.zero_add]
  exact h.cells i hi
theorem lent_of_own {w : World} {base g n c : Nat} {xs : List (Int × ByteArray)} (hz : ∀ x ∈ xs, x.2.size ≤ 1048576) (hn : xs.length = n) (hb : base ≤ g) (hc : n + 1 ≤ c) (hm : c ≤ maxLen) (h : OwnA w base (.slice (some ⟨g, 0, none⟩) (n + 1) c) (xs ++ [(77, ByteArray.empty)])) : LentA w base g n c xs := by
  have hl : (xs ++ [((77 : Int), ByteArray.empty)]).length = n + 1 := by rw [List.length_append, hn]; rfl
  have e : ∀ i, i < n → (xs ++ [((77 : Int), ByteArray.empty)]).getD i (0, ByteArray.empty) = xs.getD i (0, ByteArray.empty) := fun i hi => by
    simp only [List.getD]
    rw [List.getElem?_append_left (by omega)]
  have e2 : (xs ++ [((77 : Int), ByteArray.empty)]).getD n (0, ByteArray.empty) = (77, ByteArray.empty) := by
    simp only [List.getD]
    rw [List.getElem?_append_right (by omega), hn, Nat.sub_self]
    rfl
  refine ⟨hb, hn, hc, hm, hz, fun i hi => ?_, ?_, ?_⟩
  · have := h.cell i (by omega)
    rwa [e i hi] at this
  · have := (h.cell n (by omega)).1
    rwa [e2] at this
  · have := (h.cell n (by omega)).2
    rwa [e2] at this

end Go.Proofs.YtgbbgfjamneioaaDoor

namespace Go.Proofs.YtgbbgfjamneioaaDoor
open Go.RowKit Go.IntWalk Go.Shelf

theorem OwnA.alloc {w : World} {base : Nat} {v : Value} {xs : List (Int × ByteArray)} (h : OwnA w base v xs) (o : Obj) : OwnA (w.alloc o) base v xs := World.ownsRow.alloc h o
theorem mark_src (w : World) : Ats (w.alloc (.cells #[.int .i64 77, .string ⟨#[]⟩] 52)) (some ⟨w.heap.size, 0, none⟩) 1 1 [(77, ByteArray.empty)] := by
  refine ⟨rfl, Nat.le_refl _, by decide, by intro x hx; simp at hx; subst hx; decide, fun _ => ⟨w.heap.size, 0, rfl, fun i hi => ?_⟩⟩
  obtain rfl : i = 0 := by omega
  exact ⟨by simp, by simp; rfl⟩

set_option maxRecDepth 100000 in
set_option maxHeartbeats 1000000 in
theorem lentA_any (ao : Option Addr) (n cap : Nat) (xs : List (Int × ByteArray)) (w : World) (hA : Ats w ao n cap xs) (hnil : ao = none → n = 0 ∧ cap = 0) (hn : n ≤ 1048576) (hz : ∀ x ∈ xs, x.2.size ≤ 1048576) :
    Calls Tryd.prog 7 #[.slice ao n cap] w fun e w' => ∃ g c, e = .returned (.slice (some ⟨g, 0, none⟩) n c) ∧ LentA w' w.heap.size g n c xs ∧ Below w.heap.size w w' := by
  have HL := hide hA.hl
  have HN := hide hnil
  have HZ := hide hz
  have h1 : Hid (Ats (w.alloc (.cells #[] 52)) ao n cap xs) := hA.below (nbelow _ _)
  clear hnil hz hA
  go_enter Tryd.func7, Tryd.ntmps7
  go_wp2_with (first
    | (at_builtin; refine wpList_appA _ rfl (.tmp 3) (.tmp 4) rfl w.heap.size (.slice (some ⟨w.heap.size, 0, none⟩) 0 0) [] rfl (OwnA.lit _ _ (Nat.le_refl _)) (by simp) ao n cap xs rfl h1.out HN.out n (by simp) (by omega) (by simp) ?_; intro g1 c1 w1 ho1 hb1 hc1 hm1 hg1 hw1; have z1 := hg1.size; simp only [World.size_alloc] at z1)
    | (at_builtin; refine wpList_appA _ rfl (.tmp 5) (.tmp 7) rfl w.heap.size (.slice (some ⟨g1, 0, none⟩) n c1) xs rfl (OwnA.alloc ho1 _) (by simp) (some ⟨w1.heap.size, 0, none⟩) 1 1 [(77, ByteArray.empty)] rfl (mark_src w1) (by intro h; cases h) (n + 1) (by rw [HL.out]) (by omega) (by simp; omega) ?_; intro g c w2 ho2 hb2 hc2 hm2 hg2 hw2; have hnc : n ≤ c := by omega))
  go_ret
  refine ⟨g, c, rfl, lent_of_own HZ.out HL.out hb2 hc2 hm2 ho2, ?_⟩
  have z : w.heap.size ≤ w1.heap.size := by have := hg1.size; simp at this; omega
  exact ((((Below.refl _ _).alloc (Nat.le_refl _) _).grown hg1 (by simp) (by intro k hk; cases hk; exact Nat.le_refl _)).alloc z _).grown hg2 (by simp; omega) (by intro k hk; cases hk; exact hb1)

set_option maxRecDepth 100000 in
set_option maxHeartbeats 1000000 in
theorem keptA_any (g n c : Nat) (ao : Option Addr) (cap : Nat) (xs : List (Int × ByteArray)) (w : World) (base : Nat) (hs : Ats w ao n cap xs) (hn : n ≤ 1048576) (ho : LentA w base g n c xs) :
    Calls Tryd.prog 14 #[.slice (some ⟨g, 0, none⟩) n c, .slice ao n cap] w fun e w' => e = .returned (.bool true) ∧ Below w.heap.size w w' := by
  have hk0 := ralike_any (some ⟨g, 0, none⟩) n c xs ao n cap xs w ho.ats hs
  rw [decide_eq_true (rfl : xs = xs)] at hk0
  have hk := hide hk0
  clear hk0
  have HO := hide ho
  have hcI : (n : Int) + 1 ≤ (c : Int) := by have := ho.hc; omega
  have hw : IntKind.i64.wrap ((n : Int) + 1) = (n : Int) + 1 := i64_in _ (by omega)
  have hp : (0 : Int) ≤ (n : Int) + 1 := by omega
  clear hs ho
  go_enter Tryd.func14, Tryd.ntmps14
  go_wp2_with fail
  refine hk.out.mono ?_
  rintro e w1 ⟨rfl, B1⟩
  have hm := (HO.out.below B1).mark
  go_wp2
  go_ret
  exact ⟨rfl, B1⟩

set_option maxRecDepth 100000 in
theorem names12_any (w : World) : Calls Tryd.prog 36 #[] w fun e w' => e = .returned (.bool true) ∧ w' = w := by
  go_enter Tryd.func36, Tryd.ntmps36
  go_wp2
  go_ret
  exact ⟨rfl, rfl⟩

set_option maxRecDepth 100000 in
theorem works12_any (w : World) :
    Calls Tryd.prog 15 #[] w fun e w' => e = .returned (.bool true) ∧ Below w.heap.size w w' := by
  have hm := hide (may_one w)
  go_enter Tryd.func15, Tryd.ntmps15
  go_wp2_with fail
  refine hm.out.mono ?_
  rintro e w1 ⟨rfl, h1⟩
  go_wp2_with fail
  refine (names12_any _).mono ?_
  rintro e w2 ⟨rfl, rfl⟩
  go_wp2
  go_ret
  exact ⟨rfl, h1⟩

end Go.Proofs.YtgbbgfjamneioaaDoor
