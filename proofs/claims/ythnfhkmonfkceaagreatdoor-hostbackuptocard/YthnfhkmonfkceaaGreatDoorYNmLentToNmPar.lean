/-
  Lent attributes: a row of attributes of the call's own, with a mark behind it.
  The statements' own calls lent, kept, names, works.
  name.unmarked, name.typeOf, name.parsed.
-/
import Derived.Maps.AppendAt
import Derived.Laws.AppendOwnNone
import Derived.Test.YthnfhkmonfkceaaGreatDoorYHoMToNmRef
import Derived.Test.YthnfhkmonfkceaaGreatDoorYTxTToNmThere
import Derived.Deep.MidRow
namespace Go.Proofs.YthnfhkmonfkceaaGreatDoor
open Go.RowKit Go.IntWalk Go.Shelf

/-- The cells of a row of attributes. -/
def acells : List (Int × ByteArray) → List Value
  | [] => []
  | x :: r => .int .i64 x.1 :: .string x.2 :: acells r
theorem acells_len : ∀ xs, (acells xs).length = xs.length * 2
  | [] => rfl
  | x :: r => by rw [acells, List.length_cons, List.length_cons, acells_len r, List.length_cons]; omega
theorem acells_app : ∀ xs ys, acells (xs ++ ys) = acells xs ++ acells ys
  | [], _ => rfl
  | x :: r, ys => by rw [List.cons_append, acells, acells_app r ys]; rfl
theorem acells_at : ∀ (xs : List (Int × ByteArray)) (i : Nat), i < xs.length → (acells xs)[i * 2]? = some (.int .i64 (xs.getD i (0, ByteArray.empty)).1) ∧ (acells xs)[i * 2 + 1]? = some (.string (xs.getD i (0, ByteArray.empty)).2)
  | x :: r, 0, _ => ⟨rfl, rfl⟩
  | x :: r, i + 1, h => by
    have ih := acells_at r i (by simpa using h)
    rw [show (i + 1) * 2 = i * 2 + 1 + 1 by omega, acells]
    simpa using ih
theorem acells_one : ∀ (xs : List (Int × ByteArray)), ∀ u ∈ acells xs, u.oneCell' = true
  | x :: r, u, h => by
    rw [acells] at h
    rcases List.mem_cons.1 h with rfl | h
    · rfl
    · rcases List.mem_cons.1 h with rfl | h
      · rfl
      · exact acells_one r u h

/-- A row of attributes that the call owns. -/
def OwnA (w : World) (base : Nat) (v : Value) (xs : List (Int × ByteArray)) : Prop := w.ownsRow base 67 2 v xs.length (acells xs)
theorem OwnA.lit (w : World) (base : Nat) (hb : base ≤ w.heap.size) : OwnA (w.alloc (.cells #[] 67)) base (.slice (some ⟨w.heap.size, 0, none⟩) 0 0) [] :=
  ⟨rfl, .inr ⟨w.heap.size, 0, #[], rfl, hb, heap_alloc_new w _, Nat.le_refl _, by decide, rfl, rfl⟩⟩
theorem OwnA.cell {w : World} {base g n c : Nat} {xs : List (Int × ByteArray)} (h : OwnA w base (.slice (some ⟨g, 0, none⟩) n c) xs) (i : Nat) (hi : i < xs.length) :
    w.cell? ⟨g, i * 2, none⟩ = some (.int .i64 (xs.getD i (0, ByteArray.empty)).1) ∧ w.cell? ⟨g, i * 2 + 1, none⟩ = some (.string (xs.getD i (0, ByteArray.empty)).2) := by
  obtain ⟨h1, h2⟩ := acells_at xs i hi
  have c1 := h.cells (g := g) rfl _ _ h1
  have c2 := h.cells (g := g) rfl _ _ h2
  rw [add_none, Nat.zero_add] at c1 c2
  exact ⟨c1, c2⟩
theorem Ats.src {w : World} {ad : Addr} {n cap : Nat} {xs : List (Int × ByteArray)} (h : Ats w (some ad) n cap xs) : ∀ j u, (acells xs)[j]? = some u → w.cell? (ad.add j) = some u := by
  intro j u hj
  have hl := h.hl
  have hjl : j < xs.length * 2 := by
    rcases Nat.lt_or_ge j (xs.length * 2) with h' | h'
    · exact h'
    · rw [List.getElem?_eq_none (by rw [acells_len]; exact h')] at hj; cases hj
  obtain ⟨b, off, he, hc⟩ := h.hrd (by omega)
  cases he
  obtain ⟨k1, k2⟩ := hc (j / 2) (by omega)
  obtain ⟨a1, a2⟩ := acells_at xs (j / 2) (by omega)
  rw [add_none]
  rcases Nat.mod_two_eq_zero_or_one j with hm | hm
  · have e : j / 2 * 2 = j := by omega
    rw [e] at a1 k1
    rw [a1] at hj
    rw [k1]
    exact hj
  · have e : j / 2 * 2 + 1 = j := by omega
    have e2 : off + j / 2 * 2 + 1 = off + j := by omega
    rw [e] at a2
    rw [e2] at k2
    rw [a2] at hj
    rw [k2]
    exact hj

theorem Tryz.infoA : (Tryz.prog.info? 67).map (fun i => (i.zero, i.size, i.bytes)) = some (some (.agg #[.int .i64 0, .string ⟨#[]⟩]), 2, 24) := by kernel_rfl

/-- 'append(v, x...)' of attributes. -/
theorem wpList_appA {ops : Array Oper} {rest : List Oper} {o : Oper} {a : Act} {Q : Exit → Act → World → Prop} (w : World) (hgd : o.guard = none) (s x : Operand)
    (ho : o.op = .call { callee := .builtin .append, args := #[s, x], argTypes := #[40, 40] })
    (base : Nat) (v : Value) (xs : List (Int × ByteArray)) (hs : a.eval s = v) (hown : OwnA w base v xs) (hne : v ≠ .slice none 0 0)
    (ao : Option Addr) (m c : Nat) (ys : List (Int × ByteArray)) (hx : a.eval x = .slice ao m c) (hsrc : Ats w ao m c ys) (hnil : ao = none → m = 0 ∧ c = 0)
    (t : Nat) (ht : xs.length + m = t) (hb : t ≤ 2097152) (hbase : base ≤ w.heap.size)
    (h : ∀ g c' w', OwnA w' base (.slice (some ⟨g, 0, none⟩) t c') (xs ++ ys) → base ≤ g → t ≤ c' → c' ≤ maxLen → w.grownBy w' v.ownBlock → (v.ownBlock = some g ∨ g = w.heap.size) → wpList Tryz.prog ops Q rest (a.put o.dst (.slice (some ⟨g, 0, none⟩) t c')) w') :
    wpList Tryz.prog ops Q (o :: rest) a w := by
  subst ht
  have hl := hsrc.hl
  have hly : (xs ++ ys).length = xs.length + m := by rw [List.length_append, hl]
  have main : ∀ v' w', OwnA w' base v' (xs ++ ys) → w.grownBy w' v.ownBlock → (v' ≠ .slice none 0 0) → (v'.ownBlock = v.ownBlock ∨ v'.ownBlock = some w.heap.size) → wpList Tryz.prog ops Q rest (a.put o.dst v') w' := by
    intro v' w' h1 h2 h3 h4
    have h1' := h1
    obtain ⟨_, ⟨h5, _⟩ | ⟨g, cap, cur, hv, hb', _, hn, hmx, _⟩⟩ := h1'
    · exact absurd h5 h3
    · rw [hly] at hv hn
      subst hv
      refine h g cap w' h1 hb' hn hmx h2 ?_
      rcases h4 with h4 | h4
      · exact .inl h4.symm
      · exact .inr (by simpa [Value.ownBlock] using h4)
  obtain ⟨i0, hi, hz0, hz1, hz2⟩ := info_parts Tryz.infoA
  cases ao with
  | none =>
    obtain ⟨rfl, rfl⟩ := hnil rfl
    obtain rfl : ys = [] := List.eq_nil_of_length_eq_zero hl
    refine wpList_append_own_none hgd s x 40 ho base 67 i0 2 Tryz.underlying40 hi v _ _ hs hown hx ?_
    exact main v w (by simpa using hown) ⟨rfl, rfl, rfl, Nat.le_refl _, fun _ _ _ => rfl⟩ hne (.inl rfl)
  | some ad =>
    refine wpList_append_own_at (w := w) hgd s x 40 ho base 67 i0 _ 2 24 Tryz.underlying40 hi hz0 hz1 hz2 rfl (by decide) v _ _ hs hown ad m c (acells ys) hx (by rw [acells_len, hl]) hsrc.src (acells_one ys) (by unfold maxLen; omega) (by omega) hbase ?_
    intro v' w' h1 h2 h3 h4
    refine main v' w' ?_ h2 (fun hv => hne (h3.1 hv).1) h4
    unfold OwnA
    rw [hly, acells_app]
    exact h1

/-- A lent row: the attributes, the mark behind them. -/
structure LentA (w : World) (base g n c : Nat) (xs : List (Int × ByteArray)) : Prop where
  hb : base ≤ g
  hn : xs.length = n
  hc : n + 1 ≤ c
  hm : c ≤ maxLen
  hz : ∀ x ∈ xs, x.2.size ≤ 1048576
  cells : ∀ i, i < n → w.cell? ⟨g, i * 2, none⟩ = some (.int .i64 (xs.getD i (0, ByteArray.empty)).1) ∧ w.cell? ⟨g, i * 2 + 1, none⟩ = some (.string (xs.getD i (0, ByteArray.empty)).2)
  mark : w.cell? ⟨g, n * 2, none⟩ = some (.int .i64 77)
  markV : w.cell? ⟨g, n * 2 + 1, none⟩ = some (.string ByteArray.empty)

theorem LentA.below {w w' : World} {base g n c : Nat} {xs : List (Int × ByteArray)} (h : LentA w base g n c xs) (hb : Below w.heap.size w w') : LentA w' base g n c xs := by
  have k : ∀ {p : Addr} {v : Value}, w.cell? p = some v → w'.cell? p = some v := fun {p v} e => (hb.cell (lt_of_cell e)).trans e
  exact ⟨h.hb, h.hn, h.hc, h.hm, h.hz, fun i hi => ⟨k (h.cells i hi).1, k (h.cells i hi).2⟩, k h.mark, k h.markV⟩
theorem LentA.ats {w : World} {base g n c : Nat} {xs : List (Int × ByteArray)} (h : LentA w base g n c xs) : Ats w (some ⟨g, 0, none⟩) n c xs := by
  have hc := h.hc
  refine ⟨h.hn, by omega, h.hm, fun x hx => by have := h.hz x hx; omega, fun _ => ⟨g, 0, rfl, fun i hi => ?_⟩⟩
  rw [Nat.zero_add]
  exact h.cells i hi
theorem lent_of_own {w : World} {base g n c : Nat} {xs : List (Int × ByteArray)} (hz : ∀ x ∈ xs, x.2.size ≤ 1048576) (hn : xs.length = n) (hb : base ≤ g) (hc : n + 1 ≤ c) (hm : c ≤ maxLen) (h : OwnA w base (.slice (some ⟨g, 0, none⟩) (n + 1) c) (xs ++ [(77, ByteArray.empty)])) : LentA w base g n c xs := by
  have hl : (xs ++ [((77 : Int), ByteArray.empty)]).length = n + 1 := by rw [List.length_append, hn]; rfl
  have e : ∀ i, i < n → (xs ++ [((77 : Int), ByteArray.empty)]).getD i (0, ByteArray.empty) = xs.getD i (0, ByteArray.empty) := fun i hi => by
    simp only [List.getD]
    rw [List.getElem?_append_left (by omega)]
  have e2 : (xs ++ [((77 : Int), ByteArray.empty)]).getD n (0, ByteArray.empty) = (77, ByteArray.empty) := by
    simp only [List.getD]
    rw [List.getElem?_append_right (by omega), hn, Nat.sub_self]
    rfl
  refine ⟨hb, hn, hc, hm, hz, fun i hi => ?_, ?_, ?_⟩
  · have := h.cell i (by omega)
    rwa [e i hi] at this
  · have := (h.cell n (by omega)).1
    rwa [e2] at this
  · have := (h.cell n (by omega)).2
    rwa [e2] at this

end Go.Proofs.YthnfhkmonfkceaaGreatDoor

namespace Go.Proofs.YthnfhkmonfkceaaGreatDoor
open Go.RowKit Go.IntWalk Go.Shelf

theorem OwnA.alloc {w : World} {base : Nat} {v : Value} {xs : List (Int × ByteArray)} (h : OwnA w base v xs) (o : Obj) : OwnA (w.alloc o) base v xs := World.ownsRow.alloc h o
theorem mark_src (w : World) : Ats (w.alloc (.cells #[.int .i64 77, .string ⟨#[]⟩] 67)) (some ⟨w.heap.size, 0, none⟩) 1 1 [(77, ByteArray.empty)] := by
  refine ⟨rfl, Nat.le_refl _, by decide, by intro x hx; simp at hx; subst hx; decide, fun _ => ⟨w.heap.size, 0, rfl, fun i hi => ?_⟩⟩
  obtain rfl : i = 0 := by omega
  exact ⟨by simp, by simp; rfl⟩

end Go.Proofs.YthnfhkmonfkceaaGreatDoor

namespace Go.Proofs.YthnfhkmonfkceaaGreatDoor
open Go.RowKit Go.IntWalk Go.Shelf

theorem unm_len : ∀ l : List UInt8, (unmU l).length ≤ l.length
  | [] => Nat.le_refl _
  | [x] => Nat.le_refl _
  | x :: y :: r => by
    rw [unmU]
    split
    · have := unm_len r; simp only [List.length_cons]; omega
    · have := unm_len (y :: r); simp only [List.length_cons] at *; omega
theorem drop_one (l : List UInt8) (k : Nat) (h : k < l.length) : l.drop k = l.getD k 0 :: l.drop (k + 1) := by
  rw [List.drop_eq_getElem_cons h]
  simp [List.getD, List.getElem?_eq_getElem h]

set_option maxRecDepth 100000 in
set_option maxHeartbeats 2000000 in
theorem unmarked_any (s : ByteArray) (hs : s.size ≤ 1048576) (w : World) :
    Calls Tryz.prog 121 #[.string s] w fun e w' => e = .returned (.string ⟨(unmU s.data.toList).toArray⟩) ∧ Below w.heap.size w w' := by
  obtain ⟨i0, hi, hz0, hz1, hz2⟩ := info_parts Tryz.infoB
  obtain ⟨wm, hmk, hown, hgm⟩ := run_make_own (P := Tryz.prog) (w := w) w.heap.size 43 5 i0 (.int .u8 0) 1 Tryz.underlying43 hi hz0 hz1 .i64 .i64 s.size (by rw [hz2]; omega) (by unfold maxLen; omega) (Nat.le_refl _)
  clear hi hz0 hz1 hz2 i0
  have HO : Hid (OwnB wm w.heap.size (.slice (some ⟨w.heap.size, 0, none⟩) 0 s.size) (nums [])) := hown
  have HG := hide (below_of_grown hgm)
  have hsl : Hid (s.data.toList.length = s.size) := bs_len s
  clear hown hgm
  have hsI : (s.size : Int) ≤ 1048576 := by omega
  obtain ⟨U, hU⟩ : ∃ U, unmU s.data.toList = U := ⟨_, rfl⟩
  rw [hU]
  have HU := hide hU
  clear hU
  go_enter Tryz.func121, Tryz.ntmps121
  go_wp2
  go_loopw [3, 4] (fun v i wr => ∃ (k g m c : Nat) (M : List UInt8), v = .slice (some ⟨g, 0, none⟩) m c ∧ i = .int .i64 k ∧ k ≤ s.size ∧ m ≤ k ∧ Hid (OwnB wr w.heap.size (.slice (some ⟨g, 0, none⟩) m c) (nums M)) ∧ Hid (M ++ unmU (s.data.toList.drop k) = U) ∧ Below w.heap.size w wr) (fun _ i _ => s.size - (intOf i).toNat)
  case atStart => exact ⟨0, w.heap.size, 0, s.size, [], rfl, rfl, Nat.zero_le _, Nat.le_refl _, HO, by unfold Hid; simpa using HU.out, HG.out⟩
  case round =>
    obtain ⟨k, g, m, c, M0, rfl, rfl, hk, hm, hO, hE, hB⟩ := hrel
    have hBs := hB.size
    by_cases hlt : k < s.size
    · have ltI : (k : Int) < (s.size : Int) := by omega
      have hdr := drop_one s.data.toList k (by rw [hsl.out]; exact hlt)
      obtain ⟨x, hx⟩ : ∃ x, (s[k]'hlt) = x := ⟨_, rfl⟩
      have hxd : s.data.toList.getD k 0 = x := by rw [← get_bs s k hlt]; exact hx
      rw [hxd] at hdr
      have hxI : ((s[k]'hlt).toNat : Int) = (x.toNat : Int) := by rw [hx]
      have hx256 := x.toNat_lt
      have hlen := OwnB.eqlen hO.out
      obtain ⟨M, hM⟩ : ∃ M, nums M0 = M := ⟨_, rfl⟩
      rw [hM] at hO hlen
      have HM := hide hM
      have HLN := hide hlen
      by_cases hsp : x = 92 ∧ k + 1 < s.size
      · obtain ⟨hx92, hk1⟩ := hsp
        have c1 : ((x.toNat : Int) == 92) = true := by subst hx92; rfl
        have c2 : (k : Int) + 1 < (s.size : Int) := by omega
        have hdr2 := drop_one s.data.toList (k + 1) (by rw [hsl.out]; exact hk1)
        obtain ⟨z, hz⟩ : ∃ z, (s[k + 1]'hk1) = z := ⟨_, rfl⟩
        have hzd : s.data.toList.getD (k + 1) 0 = z := by rw [← get_bs s (k + 1) hk1]; exact hz
        rw [hzd] at hdr2
        have hzI : ((s[k + 1]'hk1).toNat : Int) = (z.toNat : Int) := by rw [hz]
        have hz256 := z.toNat_lt
        have hE2 : Hid ((M0 ++ [z]) ++ unmU (s.data.toList.drop (k + 2)) = U) := by
          unfold Hid
          have h := hE.out
          rw [hdr, hdr2, unmU, if_pos hx92] at h
          rw [← h]
          simp
        obtain ⟨y, hy⟩ : ∃ y : Int, (z.toNat : Int) = y := ⟨_, rfl⟩
        rw [hy] at hzI
        obtain ⟨y1, hy1⟩ : ∃ y : Int, (x.toNat : Int) = y := ⟨_, rfl⟩
        rw [hy1] at hxI c1
        have hy0 : 0 ≤ y ∧ y < 256 := by omega
        have HN : Hid (nums (M0 ++ [z]) = M ++ [y]) := by unfold Hid; rw [nums_app, HM.out, ← hy]; rfl
        clear hdr hdr2 hz hzd hy hx hxd hy1 hM hlen hx92
        go_wp2_with (at_builtin; refine wpList_appN _ rfl (.tmp 27) (.tmp 31) rfl w.heap.size (.slice (some ⟨g, 0, none⟩) m c) M rfl (hO.out.alloc _) (some ⟨wr.heap.size, 0, none⟩) 1 1 [y] rfl (Src.lit [y] _ 1 rfl rfl (by simp; exact hy0) (by decide)) (m + 1) (by rw [List.length_append, ← HLN.out]; rfl) (.inr (by simp)) (by omega) (by simp; omega) ?_; intro g4 c4 w4 ho4 hb4 hl4 hc4 hm4 hg4)
        have hB4 : Below w.heap.size w w4 := (hB.alloc (by omega) _).grown hg4 (by simp; omega) (by intro q hq; cases hq; exact (OwnB.lt hO.out g rfl).1)
        go_roundw
        case rel => exact ⟨k + 2, g4, m + 1, c4, M0 ++ [z], rfl, by go_num, by omega, by omega, by rw [HN.out]; exact ho4, hE2, hB4⟩
        case measure => simp [intOf]; omega
      · have hE2 : Hid ((M0 ++ [x]) ++ unmU (s.data.toList.drop (k + 1)) = U) := by
          unfold Hid
          have h := hE.out
          rw [hdr] at h
          by_cases hx92 : x = 92
          · have hk1 : s.size ≤ k + 1 := by
              rcases Nat.lt_or_ge (k + 1) s.size with h' | h'
              · exact absurd ⟨hx92, h'⟩ hsp
              · exact h'
            have e : s.data.toList.drop (k + 1) = [] := List.drop_eq_nil_of_le (by rw [hsl.out]; exact hk1)
            rw [e] at h ⊢
            rw [← h]
            simp [unmU]
          · rw [unm_plain x _ hx92] at h
            rw [← h]
            simp
        have hc : ((x.toNat : Int) == 92) = false ∨ (((x.toNat : Int) == 92) = true ∧ ¬ ((k : Int) + 1 < (s.size : Int))) := by
          by_cases hx92 : x = 92
          · right
            refine ⟨by subst hx92; rfl, fun h => hsp ⟨hx92, by omega⟩⟩
          · left
            refine beq_eq_false_iff_ne.2 (fun e => hx92 ?_)
            apply UInt8.toNat_inj.1
            show x.toNat = 92
            omega
        obtain ⟨y, hy⟩ : ∃ y : Int, (x.toNat : Int) = y := ⟨_, rfl⟩
        rw [hy] at hxI hc
        have hy0 : 0 ≤ y ∧ y < 256 := by omega
        have HN : Hid (nums (M0 ++ [x]) = M ++ [y]) := by unfold Hid; rw [nums_app, HM.out, ← hy]; rfl
        clear hdr hy hx hxd hM hlen hsp
        rcases hc with c1 | ⟨c1, c2⟩
        · go_wp2_with (at_builtin; refine wpList_appN _ rfl (.tmp 27) (.tmp 31) rfl w.heap.size (.slice (some ⟨g, 0, none⟩) m c) M rfl (hO.out.alloc _) (some ⟨wr.heap.size, 0, none⟩) 1 1 [y] rfl (Src.lit [y] _ 1 rfl rfl (by simp; exact hy0) (by decide)) (m + 1) (by rw [List.length_append, ← HLN.out]; rfl) (.inr (by simp)) (by omega) (by simp; omega) ?_; intro g4 c4 w4 ho4 hb4 hl4 hc4 hm4 hg4)
          have hB4 : Below w.heap.size w w4 := (hB.alloc (by omega) _).grown hg4 (by simp; omega) (by intro q hq; cases hq; exact (OwnB.lt hO.out g rfl).1)
          go_roundw
          case rel => exact ⟨k + 1, g4, m + 1, c4, M0 ++ [x], rfl, by go_num, by omega, by omega, by rw [HN.out]; exact ho4, hE2, hB4⟩
          case measure => simp [intOf]; omega
        · go_wp2_with (at_builtin; refine wpList_appN _ rfl (.tmp 27) (.tmp 31) rfl w.heap.size (.slice (some ⟨g, 0, none⟩) m c) M rfl (hO.out.alloc _) (some ⟨wr.heap.size, 0, none⟩) 1 1 [y] rfl (Src.lit [y] _ 1 rfl rfl (by simp; exact hy0) (by decide)) (m + 1) (by rw [List.length_append, ← HLN.out]; rfl) (.inr (by simp)) (by omega) (by simp; omega) ?_; intro g4 c4 w4 ho4 hb4 hl4 hc4 hm4 hg4)
          have hB4 : Below w.heap.size w w4 := (hB.alloc (by omega) _).grown hg4 (by simp; omega) (by intro q hq; cases hq; exact (OwnB.lt hO.out g rfl).1)
          go_roundw
          case rel => exact ⟨k + 1, g4, m + 1, c4, M0 ++ [x], rfl, by go_num, by omega, by omega, by rw [HN.out]; exact ho4, hE2, hB4⟩
          case measure => simp [intOf]; omega
    · obtain rfl : k = s.size := by omega
      have nI : ¬ ((s.size : Int) < (s.size : Int)) := by omega
      have hall : s.data.toList.drop s.size = [] := List.drop_eq_nil_of_le (by rw [hsl.out]; exact Nat.le_refl _)
      have hMU : M0 = U := by have h := hE.out; rw [hall] at h; simpa [unmU] using h
      subst hMU
      have ht := (OwnB.toSrc hO.out (nums_byte _)).text
      rw [nums_text] at ht
      clear hall
      go_wp2
      go_ret
      exact ⟨rfl, hB⟩

def ldT (t : TypeId) (v : Value) : Sem Value := Instr.loadAt t v
theorem ld_lab (v : Value) : Instr.loadAt 133 v = ldT 133 v := rfl
attribute [local go_sem ↓] ld_lab
def labV : List Value := [.string ⟨#[]⟩, .string ⟨#[]⟩, .string ⟨#[]⟩, .string ⟨#[67, 78]⟩, .string ⟨#[]⟩, .string ⟨#[83, 78]⟩, .string ⟨#[67]⟩, .string ⟨#[76]⟩, .string ⟨#[83, 84]⟩, .string ⟨#[]⟩, .string ⟨#[79]⟩, .string ⟨#[79, 85]⟩]
theorem labV_range {w : World} (h : TabN w) : w.rangeAt 2 0 labV := by
  intro j v hj
  have hjl : j < 12 := (List.getElem?_eq_some_iff.1 hj).1
  have h1 := h j hjl
  rw [Nat.zero_add, h1, ← hj]
  match j, hjl with
  | 0, _ | 1, _ | 2, _ | 3, _ | 4, _ | 5, _ | 6, _ | 7, _ | 8, _ | 9, _ | 10, _ | 11, _ => rfl
theorem lab_load {w : World} (h : TabN w) : (ldT 133 (.pointer (some ⟨2, 0, none⟩))).run Tryz.prog w = .ok (.agg #[.string ⟨#[]⟩, .string ⟨#[]⟩, .string ⟨#[]⟩, .string ⟨#[67, 78]⟩, .string ⟨#[]⟩, .string ⟨#[83, 78]⟩, .string ⟨#[67]⟩, .string ⟨#[76]⟩, .string ⟨#[83, 84]⟩, .string ⟨#[]⟩, .string ⟨#[79]⟩, .string ⟨#[79, 85]⟩]) w :=
  run_loadAt_mid w 2 0 133 labV _ (labV_range h) Tryz.underlying133 rfl (by kernel_rfl)

theorem bs_beq (L : List UInt8) (s : ByteArray) : ((⟨L.toArray⟩ : ByteArray).toList == s.toList) = decide (L = s.data.toList) := by
  rw [ByteArray.toList_eq, ByteArray.toList_eq]
  by_cases h : L = s.data.toList
  · subst h; simp
  · rw [decide_eq_false h]
    exact beq_eq_false_iff_ne.2 h

end Go.Proofs.YthnfhkmonfkceaaGreatDoor
