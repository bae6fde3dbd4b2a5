/-
  The statements' own calls lent, kept, names, works.
  Rows of attributes that grow: append of one, as a step of its own; how long the values are that are read.
  The document's put: the bytes of an element.
-/
import Derived.Test.YtgbbgfjamneioaaZNmLent
import Derived.Test.YtgbbgfjamneioaaZTxL2ToNmThere
import Derived.Test.YtgbbgfjamneioaaZNmIns
import Derived.Test.YtgbbgfjamneioaaZNmEncN
import Derived.Test.YtgbbgfjamneioaaZLenToKept3
namespace Go.Proofs.Ytgbbgfjamneioaa
open Go.RowKit Go.IntWalk Go.Shelf

theorem OwnA.alloc {w : World} {base : Nat} {v : Value} {xs : List (Int × ByteArray)} (h : OwnA w base v xs) (o : Obj) : OwnA (w.alloc o) base v xs := World.ownsRow.alloc h o
theorem mark_src (w : World) : Ats (w.alloc (.cells #[.int .i64 77, .string ⟨#[]⟩] 41)) (some ⟨w.heap.size, 0, none⟩) 1 1 [(77, ByteArray.empty)] := by
  refine ⟨rfl, Nat.le_refl _, by decide, by intro x hx; simp at hx; subst hx; decide, fun _ => ⟨w.heap.size, 0, rfl, fun i hi => ?_⟩⟩
  obtain rfl : i = 0 := by omega
  exact ⟨by simp, by simp; rfl⟩

set_option maxRecDepth 100000 in
theorem names12_any (w : World) : Calls Try.prog 18 #[] w fun e w' => e = .returned (.bool true) ∧ w' = w := by
  go_enter Try.func18, Try.ntmps18
  go_wp2
  go_ret
  exact ⟨rfl, rfl⟩

set_option maxRecDepth 100000 in
theorem works12_any (w : World) :
    Calls Try.prog 7 #[] w fun e w' => e = .returned (.bool true) ∧ Below w.heap.size w w' := by
  have hm := hide (may_one w)
  go_enter Try.func7, Try.ntmps7
  go_wp2_with fail
  refine hm.out.mono ?_
  rintro e w1 ⟨rfl, h1⟩
  go_wp2_with fail
  refine (names12_any _).mono ?_
  rintro e w2 ⟨rfl, rfl⟩
  go_wp2
  go_ret
  exact ⟨rfl, h1⟩

end Go.Proofs.Ytgbbgfjamneioaa

namespace Go.Proofs.Ytgbbgfjamneioaa
open Go.RowKit Go.IntWalk Go.Shelf

theorem run_appA (w : World) (ty : TypeId) (base : Nat) (v : Value) (xs : List (Int × ByteArray)) (hown : OwnA w base v xs) (ad : Addr) (c : Nat) (t : Int) (s : ByteArray) (hsrc : Ats w (some ad) 1 c [(t, s)]) (k : Nat) (hk : xs.length + 1 = k) (hb : k ≤ 2097152) (hbase : base ≤ w.heap.size) :
    ∃ g c' w', (Builtin.append_ #[24, 24] ty #[v, .slice (some ad) 1 c]).run Try.prog w = .ok (.slice (some ⟨g, 0, none⟩) k c') w' ∧ OwnA w' base (.slice (some ⟨g, 0, none⟩) k c') (xs ++ [(t, s)]) ∧
      base ≤ g ∧ c' ≤ maxLen ∧ k ≤ c' ∧ w.grownBy w' v.ownBlock ∧ (v.ownBlock = some g ∨ g = w.heap.size) := by
  subst hk
  obtain ⟨i0, hi, hz0, hz1, hz2⟩ := info_parts Try.infoA
  have hly : (xs ++ [(t, s)]).length = xs.length + 1 := by rw [List.length_append]; rfl
  obtain ⟨v', w', h0, h1, h2, h3, h4⟩ := run_append_own_at (w := w) base 24 ty 41 i0 _ 2 24 Try.underlying24 hi hz0 hz1 hz2 rfl (by decide) v _ _ hown ad 1 c (acells [(t, s)]) rfl hsrc.src (acells_one _) (by unfold maxLen; omega) (by omega) hbase
  have h1' := h1
  obtain ⟨_, ⟨h5, h6⟩ | ⟨g, cap, cur, hv, hb', _, hn, hmx, _⟩⟩ := h1'
  · exact absurd (h3.1 h5).2 (by omega)
  · subst hv
    refine ⟨g, cap, w', h0, ?_, hb', hmx, hn, h2, ?_⟩
    · unfold OwnA
      rw [hly, acells_app]
      exact h1
    · rcases h4 with h4 | h4
      · exact .inl h4.symm
      · exact .inr (by simpa [Value.ownBlock] using h4)
theorem OwnA.nil (w : World) (base : Nat) : OwnA w base (.slice none 0 0) [] := World.ownsRow_nil _ _ _ _
theorem OwnA.ats {w : World} {base : Nat} {a : Option Addr} {n c : Nat} {xs : List (Int × ByteArray)} (h : OwnA w base (.slice a n c) xs) (hz : ∀ x ∈ xs, x.2.size ≤ 1048576) : Ats w a n c xs := by
  have h' := h
  obtain ⟨h1, ⟨h2, h3⟩ | ⟨g, cap, cur, h2, h3, h4, h5, h6, h7⟩⟩ := h'
  · cases h2
    have hx : xs = [] := by
      have := acells_len xs
      rw [h3] at this
      exact List.eq_nil_of_length_eq_zero (by simp at this; omega)
    subst hx
    exact ⟨rfl, Nat.le_refl _, by decide, by simp, fun h => absurd h (by omega)⟩
  · have e := Value.slice.inj h2
    obtain ⟨rfl, rfl, rfl⟩ := e
    refine ⟨rfl, h5, h6, fun x hx => by have := hz x hx; omega, fun _ => ⟨g, 0, rfl, fun i hi => ?_⟩⟩
    rw [Nat.zero_add]
    exact h.cell i hi
theorem OwnA.rebase {w : World} {base base' : Nat} {v : Value} {xs : List (Int × ByteArray)} (h : OwnA w base v xs) (hb : base' ≤ base) : OwnA w base' v xs := by
  obtain ⟨hl, h⟩ := h
  refine ⟨hl, ?_⟩
  rcases h with h | ⟨g, cap, cur, rfl, hbg, r⟩
  · exact .inl h
  · exact .inr ⟨g, cap, cur, rfl, by omega, r⟩
theorem OwnA.nils {w : World} {base : Nat} {n c : Nat} {xs : List (Int × ByteArray)} (h : OwnA w base (.slice none n c) xs) : n = 0 ∧ c = 0 := by
  obtain ⟨h1, ⟨h2, h3⟩ | ⟨g, cap, cur, h2, _⟩⟩ := h
  · cases h2; exact ⟨rfl, rfl⟩
  · cases h2
theorem OwnA.below {w w' : World} {base : Nat} {v : Value} {xs : List (Int × ByteArray)} (h : OwnA w base v xs) (hb : Below w.heap.size w w') : OwnA w' base v xs := row_below h hb

theorem cont_len (X : List Int) : (contS X).length ≤ X.length := by
  unfold contS
  rw [List.length_drop, List.length_take]
  omega
theorem ins_len {X : List Int} {t : Int} {l : List (Int × List Int)} (h : insS X t = some l) : ∀ e ∈ l, e.2.length ≤ X.length := by
  unfold insS at h
  split at h
  · cases h
    intro e he
    obtain ⟨p, _, rfl⟩ := List.mem_map.1 he
    have h1 := cont_len ((oneS X).2.1.drop p)
    have h2 := one_len X
    rw [List.length_drop] at h1
    unfold elS
    simp only []
    omega
  · cases h
theorem str_len (xs : List Int) : (strOfNums xs).size = xs.length := strOfNums_size xs
theorem gsE_len {X : List Int} {a : Int × ByteArray} (h : gsE X = some a) : a.2.size ≤ X.length := by
  unfold gsE at h
  split at h
  · rename_i x y hq
    split at h
    · cases h
      have := ins_len hq y (by simp)
      simp only [str_len]
      exact this
    · cases h
  · cases h
theorem gsL_len : ∀ {l : List (Int × List Int)} {r : List (Int × ByteArray)} {N : Nat}, (∀ e ∈ l, e.2.length ≤ N) → gsL l = some r → r.length = l.length ∧ ∀ x ∈ r, x.2.size ≤ N
  | [], r, N, _, h => by cases h; exact ⟨rfl, by simp⟩
  | e :: l, r, N, hl, h => by
    simp only [gsL] at h
    cases hg : gsE e.2 with
    | none => rw [hg] at h; cases h
    | some a =>
      rw [hg] at h
      cases hr : gsL l with
      | none => rw [hr] at h; cases h
      | some R =>
        rw [hr] at h
        cases h
        obtain ⟨h1, h2⟩ := gsL_len (fun e' he' => hl e' (by simp [he'])) hr
        refine ⟨by simp [h1], fun x hx => ?_⟩
        rcases List.mem_cons.1 hx with rfl | hx
        · have := gsE_len hg; have := hl e (by simp); omega
        · exact h2 x hx
theorem gsN_len (xs : List Int) : ∀ x ∈ gsN xs, x.2.size ≤ xs.length := by
  intro x hx
  unfold gsN at hx
  cases hi : insS xs 48 with
  | none => rw [hi] at hx; simp [gsL] at hx
  | some l =>
    rw [hi] at hx
    simp only [Option.getD_some] at hx
    cases hg : gsL l with
    | none => rw [hg] at hx; simp at hx
    | some r => rw [hg] at hx; exact (gsL_len (ins_len hi) hg).2 x (by simpa using hx)
theorem gsL_snoc : ∀ (es : List (Int × List Int)) (k : Nat) (G : List (Int × ByteArray)) (a : Int × ByteArray), k < es.length → gsL (es.take k) = some G → gsE (es.getD k (0, [])).2 = some a → gsL (es.take (k + 1)) = some (G ++ [a])
  | [], k, _, _, h, _, _ => by simp at h
  | e :: es, 0, G, a, _, h1, h2 => by
    simp [gsL] at h1
    subst h1
    simp at h2
    simp [gsL, h2]
  | e :: es, k + 1, G, a, h, h1, h2 => by
    rw [List.take_succ_cons] at h1 ⊢
    simp only [gsL] at h1 ⊢
    cases hg : gsE e.2 with
    | none => rw [hg] at h1; cases h1
    | some x =>
      rw [hg] at h1
      simp only [] at h1 ⊢
      cases hr : gsL (es.take k) with
      | none => rw [hr] at h1; simp at h1
      | some R =>
        rw [hr] at h1
        simp at h1
        subst h1
        have ih := gsL_snoc es k R a (by simpa using h) hr (by simpa using h2)
        rw [ih]
        simp
theorem gsL_fail : ∀ (es : List (Int × List Int)) (k : Nat), k < es.length → gsE (es.getD k (0, [])).2 = none → gsL es = none
  | [], k, h, _ => by simp at h
  | e :: es, 0, _, h => by simp at h; simp [gsL, h]
  | e :: es, k + 1, h, h2 => by
    have ih := gsL_fail es k (by simpa using h) (by simpa using h2)
    simp only [gsL]
    cases gsE e.2 <;> simp [ih]
theorem dcA_len (X : List Int) : (dcA X).2.size ≤ X.length := by
  unfold dcA
  split
  · simp only [str_len]
    unfold dcV dcP
    have h1 := one_len ((oneS X).2.1.drop (findS (oneS X).2.1).2.2.1.toNat)
    have h2 := one_len X
    rw [List.length_drop] at h1
    omega
  · simp

end Go.Proofs.Ytgbbgfjamneioaa

namespace Go.Proofs.Ytgbbgfjamneioaa
open Go.RowKit Go.IntWalk Go.Shelf

theorem putB_one (tag : Int) (xs : List Int) (h1 : isTagB tag = true) (h2 : xs.length ≤ 16777215) : putB tag [xs] = [tag] ++ lenB xs.length ++ xs := by
  unfold putB putS
  rw [if_neg (by simp [h1])]
  simp only [List.flatten_cons, List.flatten_nil, List.append_nil]
  rw [if_neg (by omega)]
  simp
theorem putB_two (tag : Int) (xs ys : List Int) : putB tag [xs, ys] = putB tag [xs ++ ys] := by unfold putB putS; simp

set_option maxRecDepth 100000 in
theorem rnput_any (tag : Int) (ht : isTagB tag = true) (a : Option Addr) (m c : Nat) (xs : List Int) (w : World) (hs : Src w a m c xs) (hm : m ≤ 16777215) :
    Calls Try.prog 33 #[.int .i64 tag, .slice a m c] w fun e w' => ∃ g k c', e = .returned (.slice (some ⟨g, 0, none⟩) k c') ∧ OwnB w' w.heap.size (.slice (some ⟨g, 0, none⟩) k c') (putB tag [xs]) ∧ Below w.heap.size w w' := by
  have hb := tag_bd ht
  have e := putB_one tag xs ht (by rw [hs.hlen]; exact hm)
  rw [hs.hlen] at e
  have hC := hide (bytes_any tag a m c xs w hs hb.1 hb.2 (by omega))
  rw [e]
  clear e
  generalize [tag] ++ lenB m ++ xs = P at hC ⊢
  generalize 1 + (lenB m).length + m = k at hC
  go_enter Try.func33, Try.ntmps33
  go_wp2_with fail
  refine hC.out.mono ?_
  rintro e w1 ⟨g, c', rfl, O1, B1⟩
  go_wp2
  go_ret
  exact ⟨g, k, c', rfl, O1, B1⟩

end Go.Proofs.Ytgbbgfjamneioaa
