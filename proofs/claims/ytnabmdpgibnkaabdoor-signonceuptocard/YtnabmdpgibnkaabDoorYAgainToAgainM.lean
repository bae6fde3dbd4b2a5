/-
  What is found of any bytes, put again, is those bytes; all places, one behind the other, are the bytes. No Go, no program.
  All elements of bytes, put one behind the other, are the bytes up to where the last one ends. No program.
-/
import Derived.Test.YtnabmdpgibnkaabDoorYShortToRound
import Derived.Test.YtnabmdpgibnkaabDoorYAllBase
import Derived.Test.YtnabmdpgibnkaabDoorYSpecToPut
namespace Go.Proofs.YtnabmdpgibnkaabDoor

theorem cons_take1 (ys : List Int) (h : 0 < ys.length) : ys = ys.getD 0 0 :: ys.drop 1 := by
  cases ys with
  | nil => simp at h
  | cons a r => simp

theorem digs_of1 (a : Int) (h0 : 0 < a) (h1 : a < 256) : digs (numOf [a]).toNat = [a] := by
  obtain ⟨A, rfl⟩ := Int.eq_ofNat_of_zero_le (show 0 ≤ a by omega)
  have e : (numOf [(A : Int)]).toNat = A := by simp [numOf]
  rw [e]
  unfold digs
  rw [if_neg (by omega), if_pos (by omega)]

theorem digs_of2 (a b : Int) (h0 : 0 < a) (h1 : a < 256) (h2 : 0 ≤ b) (h3 : b < 256) : digs (numOf [a, b]).toNat = [a, b] := by
  obtain ⟨A, rfl⟩ := Int.eq_ofNat_of_zero_le (show 0 ≤ a by omega)
  obtain ⟨B, rfl⟩ := Int.eq_ofNat_of_zero_le h2
  have e : (numOf [(A : Int), (B : Int)]).toNat = A * 256 + B := by simp [numOf]; omega
  rw [e]
  unfold digs
  rw [if_neg (by omega), if_neg (by omega), if_pos (by omega), show (A * 256 + B) / 256 = A by omega, show (A * 256 + B) % 256 = B by omega]

theorem digs_of3 (a b c : Int) (h0 : 0 < a) (h1 : a < 256) (h2 : 0 ≤ b) (h3 : b < 256) (h4 : 0 ≤ c) (h5 : c < 256) : digs (numOf [a, b, c]).toNat = [a, b, c] := by
  obtain ⟨A, rfl⟩ := Int.eq_ofNat_of_zero_le (show 0 ≤ a by omega)
  obtain ⟨B, rfl⟩ := Int.eq_ofNat_of_zero_le h2
  obtain ⟨C, rfl⟩ := Int.eq_ofNat_of_zero_le h4
  have e : (numOf [(A : Int), (B : Int), (C : Int)]).toNat = (A * 256 + B) * 256 + C := by simp [numOf]; omega
  rw [e]
  unfold digs
  rw [if_neg (by omega), if_neg (by omega), if_neg (by omega), show ((A * 256 + B) * 256 + C) / 65536 = A by omega, show ((A * 256 + B) * 256 + C) / 256 % 256 = B by omega, show ((A * 256 + B) * 256 + C) % 256 = C by omega]

/-- The length that is taken has just these bytes. -/
theorem lenB_take (zs : List Int) (hz : 0 < zs.length) (hb : ∀ x ∈ zs, 0 ≤ x ∧ x < 256) (he : (takeLenS zs).2.2 = 0) : lenB (takeLenS zs).1.toNat = zs.take (takeLenS zs).2.1.toNat := by
  have h0 : 0 ≤ zs.getD 0 0 ∧ zs.getD 0 0 < 256 := by
    rw [List.getD, List.getElem?_eq_getElem hz]; exact hb _ (List.getElem_mem _)
  have hc := cons_take1 zs hz
  revert he
  unfold takeLenS
  by_cases h1 : zs.getD 0 0 ≤ 127
  · rw [if_pos h1]
    intro _
    simp only [Int.toNat_one]
    unfold lenB
    rw [if_pos (by omega), Int.toNat_of_nonneg h0.1]
    conv => rhs; rw [hc]
    simp
  · rw [if_neg h1]
    by_cases h2 : zs.getD 0 0 = 128 ∨ 131 < zs.getD 0 0
    · rw [if_pos h2]; intro h; simp at h
    · rw [if_neg h2]
      by_cases h3 : 1 < zs.length ∧ zs.getD 1 0 = 0
      · rw [if_pos h3]; intro h; simp at h
      · rw [if_neg h3]
        by_cases h4 : (zs.length : Int) < 1 + (zs.getD 0 0 - 128)
        · rw [if_pos h4]; intro h; simp at h
        · rw [if_neg h4]
          by_cases h5 : numOf ((zs.drop 1).take (zs.getD 0 0 - 128).toNat) ≤ 127
          · rw [if_pos h5]; intro h; simp at h
          · rw [if_neg h5]
            intro _
            simp only []
            generalize hf : zs.getD 0 0 = f at *
            obtain ⟨k, hk⟩ : ∃ k : Nat, (f - 128).toNat = k := ⟨_, rfl⟩
            rw [hk] at h5 ⊢
            rw [show (1 + (f - 128)).toNat = k + 1 by omega]
            rw [hc, List.take_succ_cons]
            simp only [List.drop_succ_cons, List.drop_zero] at h5 ⊢
            generalize hr : zs.drop 1 = r at *
            have hrl : k ≤ r.length := by rw [← hr]; simp; omega
            have hrb : ∀ x ∈ r, 0 ≤ x ∧ x < 256 := by rw [← hr]; exact fun x hx => hb x (List.mem_of_mem_drop hx)
            have hr0 : ∀ a q, r = a :: q → 0 < a := by
              intro a q ha
              have : zs.getD 1 0 = a := by rw [hc, ha]; simp
              have h' := (hrb a (by rw [ha]; simp)).1
              have hl : 1 < zs.length := by rw [hc, ha]; simp
              have : zs.getD 1 0 ≠ 0 := fun h => h3 ⟨hl, h⟩
              omega
            have key : digs (numOf (r.take k)).toNat = r.take k := by
              match k, r, hrl, hrb, hr0 with
              | 1, a :: q, _, hrb, hr0 =>
                simp only [List.take_succ_cons, List.take_zero]
                exact digs_of1 a (hr0 a q rfl) (hrb a (by simp)).2
              | 2, a :: b :: q, _, hrb, hr0 =>
                simp only [List.take_succ_cons, List.take_zero]
                exact digs_of2 a b (hr0 a _ rfl) (hrb a (by simp)).2 (hrb b (by simp)).1 (hrb b (by simp)).2
              | 3, a :: b :: c :: q, _, hrb, hr0 =>
                simp only [List.take_succ_cons, List.take_zero]
                exact digs_of3 a b c (hr0 a _ rfl) (hrb a (by simp)).2 (hrb b (by simp)).1 (hrb b (by simp)).2 (hrb c (by simp)).1 (hrb c (by simp)).2
              | 0, _, _, _, _ => exfalso; omega
              | k + 4, _, _, _, _ => exfalso; omega
              | 1, [], hrl, _, _ => simp at hrl
              | 2, [], hrl, _, _ => simp at hrl
              | 2, [_], hrl, _, _ => simp at hrl
              | 3, [], hrl, _, _ => simp at hrl
              | 3, [_], hrl, _, _ => simp at hrl
              | 3, [_, _], hrl, _, _ => simp at hrl
            unfold lenB
            rw [if_neg (by omega), key]
            congr 1
            rw [List.length_take, Nat.min_eq_left hrl]
            omega

end Go.Proofs.YtnabmdpgibnkaabDoor

namespace Go.Proofs.YtnabmdpgibnkaabDoor

/-- An element's bytes. -/
def putB (e : Int × List Int) : List Int := [e.1] ++ lenB e.2.length ++ e.2
def catS (es : List (Int × List Int)) : List Int := (es.map putB).flatten

theorem contS_len (ys : List Int) (l h : Nat) (t : Int) (he : findS ys = (t, (l : Int), (h : Int), 0)) (hh : h ≤ ys.length) : (contS ys).length = h - l := by
  unfold contS
  rw [he]
  simp
  omega

theorem put_find (ys : List Int) (hb : ∀ x ∈ ys, 0 ≤ x ∧ x < 256) (t : Int) (l h : Nat) (he : findS ys = (t, (l : Int), (h : Int), 0)) (hh : h ≤ ys.length) (hlh : l ≤ h) :
    isTagB t = true ∧ putB (t, contS ys) = ys.take h := by
  have hcl := contS_len ys l h t he hh
  have he' := he
  unfold findS at he'
  by_cases h1 : ys.length = 0
  · rw [if_pos h1] at he'; simp at he'
  · rw [if_neg h1] at he'
    by_cases h2 : isTagB (ys.getD 0 0) = false
    · rw [if_pos h2] at he'; simp at he'
    · rw [if_neg h2] at he'
      by_cases h3 : ys.length = 1
      · rw [if_pos h3] at he'; simp at he'
      · rw [if_neg h3] at he'
        by_cases h4 : (takeLenS (ys.drop 1)).2.2 ≠ 0
        · rw [if_pos h4] at he'
          simp only [Prod.mk.injEq] at he'
          exact absurd he'.2.2.2 h4
        · rw [if_neg h4] at he'
          by_cases h5 : (ys.length : Int) - (1 + (takeLenS (ys.drop 1)).2.1) < (takeLenS (ys.drop 1)).1
          · rw [if_pos h5] at he'; simp at he'
          · rw [if_neg h5] at he'
            simp only [Prod.mk.injEq] at he'
            obtain ⟨e1, e2, e3, _⟩ := he'
            have hbd := takeLenS_bd (ys.drop 1) (fun x hx => hb x (List.mem_of_mem_drop hx))
            have hL := lenB_take (ys.drop 1) (by simp; omega) (fun x hx => hb x (List.mem_of_mem_drop hx)) (by simpa using h4)
            refine ⟨by rw [← e1]; simpa using h2, ?_⟩
            unfold putB
            simp only []
            have eN : (contS ys).length = (takeLenS (ys.drop 1)).1.toNat := by rw [hcl]; omega
            rw [eN, hL]
            have eS : (takeLenS (ys.drop 1)).2.1.toNat = l - 1 := by omega
            rw [eS]
            have hc : contS ys = (ys.take h).drop l := by unfold contS; rw [he]; simp
            rw [hc]
            have hy := cons_take1 ys (by omega)
            rw [e1] at hy
            obtain ⟨l', rfl⟩ : ∃ l', l = l' + 1 := ⟨l - 1, by omega⟩
            obtain ⟨h', rfl⟩ : ∃ h', h = h' + 1 := ⟨h - 1, by omega⟩
            generalize ys.drop 1 = r at *
            rw [hy]
            simp only [List.take_succ_cons, List.drop_succ_cons, Nat.add_sub_cancel, List.cons_append, List.nil_append]
            congr 1
            have : r.take l' = (r.take h').take l' := by rw [List.take_take, Nat.min_eq_left (by omega)]
            rw [this, List.take_append_drop]

/-- Where the elements end that begin at p. -/
def endP (xs : List Int) (ps : List Nat) (p : Nat) : Nat := match ps.getLast? with
  | none => p
  | some q => q + (findS (xs.drop q)).2.2.1.toNat

theorem endP_cons (xs : List Int) (ps : List Nat) (p : Nat) : endP xs (p :: ps) p = endP xs ps (p + (findS (xs.drop p)).2.2.1.toNat) := by
  unfold endP
  cases ps with
  | nil => simp
  | cons a r =>
    rw [List.getLast?_cons_cons, List.getLast?_eq_some_getLast (List.cons_ne_nil a r)]

theorem endS_endP (xs : List Int) (ps : List Nat) : endS xs ps = endP xs ps 0 := rfl

theorem places_cat (xs : List Int) (hb : ∀ x ∈ xs, 0 ≤ x ∧ x < 256) : ∀ (f p : Nat), xs.length - p ≤ f → p ≤ xs.length →
    (∀ q ∈ placesF xs f p, isTagB (elS xs q).1 = true ∧ (elS xs q).2.length < 16777216) ∧ p ≤ endP xs (placesF xs f p) p ∧ endP xs (placesF xs f p) p ≤ xs.length ∧
    catS ((placesF xs f p).map (elS xs)) = (xs.drop p).take (endP xs (placesF xs f p) p - p) ∧
    (endP xs (placesF xs f p) p < xs.length → (findS (xs.drop (endP xs (placesF xs f p) p))).2.2.2 ≠ 0) := by
  intro f
  induction f with
  | zero =>
    intro p h1 h2
    simp only [placesF]
    refine ⟨by simp, by simp [endP], by simpa [endP] using h2, by simp [endP, catS], fun h => ?_⟩
    simp [endP] at h
    omega
  | succ f ih =>
    intro p h1 h2
    simp only [placesF]
    have hbp : ∀ x ∈ xs.drop p, 0 ≤ x ∧ x < 256 := fun x hx => hb x (List.mem_of_mem_drop hx)
    by_cases hc : p < xs.length ∧ (findS (xs.drop p)).2.2.2 = 0 ∧ 0 < (findS (xs.drop p)).2.2.1
    · rw [if_pos hc]
      obtain ⟨hp, he0, _⟩ := hc
      rcases findS_cases (xs.drop p) hbp with ⟨err, h3, _, _, he⟩ | ⟨l, h, he, g1, g2, g3, g4, g5⟩
      · rw [he] at he0; exact absurd he0 h3
      · have hlen : (xs.drop p).length = xs.length - p := by simp
        rw [hlen] at g4
        obtain ⟨t1, t2⟩ := put_find (xs.drop p) hbp _ l h he (by rw [hlen]; exact g4) g3
        have hq : (findS (xs.drop p)).2.2.1.toNat = h := by rw [he]; simp
        rw [endP_cons, hq]
        obtain ⟨i1, i2, i3, i4, i5⟩ := ih (p + h) (by omega) (by omega)
        have hel : elS xs p = ((xs.drop p).getD 0 0, contS (xs.drop p)) := by unfold elS; rw [he]
        refine ⟨?_, by omega, i3, ?_, i5⟩
        · intro q hqm
          rcases List.mem_cons.1 hqm with rfl | hqm
          · rw [hel]
            exact ⟨t1, by simp only []; rw [contS_len (xs.drop q) l h _ he (by rw [hlen]; exact g4)]; exact g5⟩
          · exact i1 q hqm
        · rw [List.map_cons, catS, List.map_cons, List.flatten_cons]
          have i4' : ((placesF xs f (p + h)).map (elS xs) |>.map putB).flatten = (xs.drop (p + h)).take (endP xs (placesF xs f (p + h)) (p + h) - (p + h)) := i4
          rw [i4', hel, t2]
          generalize endP xs (placesF xs f (p + h)) (p + h) = E at *
          have e1 : xs.drop (p + h) = (xs.drop p).drop h := by rw [List.drop_drop]
          rw [e1, show E - p = h + (E - (p + h)) by omega, List.take_add]
    · rw [if_neg hc]
      refine ⟨by simp, by simp [endP], by simpa [endP] using h2, by simp [endP, catS], fun h => ?_⟩
      simp only [endP, List.getLast?_nil] at h ⊢
      intro he0
      rcases findS_cases (xs.drop p) hbp with ⟨err, h3, _, _, he⟩ | ⟨l, h', he, g1, g2, g3, g4, g5⟩
      · rw [he] at he0; exact h3 he0
      · apply hc
        refine ⟨h, he0, ?_⟩
        rw [he]
        simp
        omega

theorem EMatch.get {W : World} {base : Nat} : ∀ {cs : List Value} {es : List (Int × List Int)}, EMatch W base cs es → ∀ i, i < es.length →
    ∃ ao m c, cs[2 * i]? = some (.int .i64 (es.getD i (0, [])).1) ∧ cs[2 * i + 1]? = some (.slice ao m c) ∧ OwnB W base (.slice ao m c) (es.getD i (0, [])).2
  | [], [], _, i, h => by simp at h
  | a :: s :: cs, e :: es, ⟨h1, ⟨ao, m, c, h2⟩, h3, h4⟩, i, h => by
    cases i with
    | zero => exact ⟨ao, m, c, by simp [h1], by simp [h2], by rw [← h2]; simpa using h3⟩
    | succ i =>
      obtain ⟨ao', m', c', k1, k2, k3⟩ := EMatch.get h4 i (by simpa using h)
      refine ⟨ao', m', c', ?_, ?_, ?_⟩
      · rw [show 2 * (i + 1) = 2 * i + 1 + 1 by omega]; simpa using k1
      · rw [show 2 * (i + 1) + 1 = 2 * i + 1 + 1 + 1 by omega]; simpa using k2
      · simpa using k3

theorem catS_snoc (es : List (Int × List Int)) (i : Nat) (h : i < es.length) : catS (es.take (i + 1)) = catS (es.take i) ++ putB (es.getD i (0, [])) := by
  unfold catS
  rw [List.take_add_one, List.map_append, List.flatten_append]
  simp [List.getD, h]

theorem catS_pre (es : List (Int × List Int)) (i : Nat) : (catS (es.take i)).length ≤ (catS es).length := by
  have : catS es = catS (es.take i) ++ catS (es.drop i) := by
    unfold catS
    rw [← List.flatten_append, ← List.map_append, List.take_append_drop]
  rw [this]
  simp

end Go.Proofs.YtnabmdpgibnkaabDoor
