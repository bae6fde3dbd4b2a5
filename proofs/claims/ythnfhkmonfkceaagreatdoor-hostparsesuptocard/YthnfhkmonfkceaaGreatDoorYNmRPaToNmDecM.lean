/-
  The document's Parts, as a call.
  What is put is found again: the plain functions undo one another. No Go, no program.
  A name's bytes are read as that name: the maths. No program.
-/
import Derived.Test.YthnfhkmonfkceaaGreatDoorYNmDcdToNmIt
import Derived.Test.YthnfhkmonfkceaaGreatDoorYCloneToFindIt
import Derived.Test.YthnfhkmonfkceaaGreatDoorYROneToRRow
namespace Go.Proofs.YthnfhkmonfkceaaGreatDoor
open Go.RowKit Go.IntWalk

def stx (l : List UInt8) : ByteArray := ⟨l.toArray⟩
def stxs (ws : List (List UInt8)) : List ByteArray := ws.map stx
theorem stxs_more (ws : List (List UInt8)) (u : List UInt8) : stxs (ws ++ [u]) = stxs ws ++ [stx u] := by simp [stxs]
theorem stxs_len (ws : List (List UInt8)) : (stxs ws).length = ws.length := by simp [stxs]
theorem stxs_get (ws : List (List UInt8)) (k : Nat) (h : k < ws.length) : (stxs ws)[k]? = some (stx (ws[k]'h)) := by simp [stxs, h]

/-- The pieces so far are ws, and what is left stands ahead. -/
def PRel (l : List UInt8) (ws : List (List UInt8)) (b k : Nat) : Prop := ws ++ remP l b k = pcs [] l

set_option maxRecDepth 100000 in
set_option maxHeartbeats 2000000 in
theorem rparts_any (s : ByteArray) (hs : s.size ≤ 1048576) (w : World) :
    Calls Tryz.prog 56 #[.string s] w fun e w' => ∃ ao c, e = .returned (.slice ao (pcs [] s.data.toList).length c) ∧ OwnS w' w.heap.size (.slice ao (pcs [] s.data.toList).length c) (stxs (pcs [] s.data.toList)) ∧ Below w.heap.size w w' := by
  have hSL := bs_len s
  have hP0 : Hid (PRel s.data.toList [] 0 0) := by
    unfold Hid PRel remP
    rw [if_pos (Nat.zero_le _)]
    rfl
  go_enter Tryz.func56, Tryz.ntmps56
  go_wp2
  go_loopw [3, 4, 5] (fun l f i wr => ∃ (ws : List (List UInt8)) (ao : Option Addr) (c b k : Nat), l = .slice ao ws.length c ∧ f = .int .i64 b ∧ i = .int .i64 k ∧ b ≤ k ∧ b ≤ s.size ∧ k ≤ s.size + 1 ∧ ws.length ≤ k ∧ Hid (OwnS wr w.heap.size (.slice ao ws.length c) (stxs ws) ∧ Below w.heap.size w wr) ∧ Hid (PRel s.data.toList ws b k)) (fun _ _ i _ => s.size - (intOf i).toNat)
  case atStart => exact ⟨[], none, 0, 0, 0, rfl, rfl, rfl, Nat.le_refl _, Nat.zero_le _, Nat.zero_le _, Nat.le_refl _, ⟨OwnS.nil _ _, Below.refl _ _⟩, hP0⟩
  case round =>
    obtain ⟨ws, ao, c, b, k, rfl, rfl, rfl, hbk, hbs, hks, hwk, HO, HW⟩ := hrel
    have htl := hide (stxs_len ws)
    by_cases hlt : k < s.size
    · have ltI : (k : Int) < (s.size : Int) := by omega
      obtain ⟨x, hx⟩ : ∃ x, (s[k]'hlt) = x := ⟨_, rfl⟩
      have hxd : s.data.toList.getD k 0 = x := by rw [← get_bs s k hlt]; exact hx
      have hxI : ((s[k]'hlt).toNat : Int) = (x.toNat : Int) := by rw [hx]
      have hx256 := x.toNat_lt
      obtain ⟨y, hy⟩ : ∃ y : Int, (x.toNat : Int) = y := ⟨_, rfl⟩
      rw [hy] at hxI
      by_cases h92 : x = 92
      · have q1 : (y == 92) = true := by rw [← hy, h92]; rfl
        have hR : Hid (PRel s.data.toList ws b (k + 2)) := by
          unfold Hid PRel
          rcases Nat.lt_or_ge (k + 1) s.size with h' | h'
          · rw [← rem_mark2 s.data.toList b k hbk (by rw [hSL]; exact h') (by rw [hxd, h92])]; exact HW.out
          · rw [← rem_mark1 s.data.toList b k hbk (by rw [hSL]; omega) (by rw [hxd, h92])]; exact HW.out
        clear HW hx hxd hy h92
        go_wp2
        go_roundw
        case rel => exact ⟨ws, ao, c, b, k + 2, rfl, rfl, by go_num, by omega, hbs, by omega, by omega, HO, hR⟩
        case measure => simp [intOf]; omega
      · by_cases h44 : x = 44
        · have q1 : (y == 92) = false := by rw [← hy, h44]; rfl
          have q2 : (y == 44) = true := by rw [← hy, h44]; rfl
          have hR : Hid (PRel s.data.toList (ws ++ [cutL s.data.toList b k]) (k + 1) (k + 1)) := by
            unfold Hid PRel
            have h := HW.out
            unfold PRel at h
            rw [rem_comma s.data.toList b k (by rw [hSL]; exact hlt) (by rw [hxd, h44])] at h
            rw [← h]
            simp
          have sl : ∀ X, (Instr.slice 9 (.string s) (some (.int .i64 (b : Int))) (some (.int .i64 (k : Int))) none).run Tryz.prog X = .ok (.string (stx (cutL s.data.toList b k))) X := fun X => by
            have h := run_slice_string (P := Tryz.prog) (w := X) 9 s .i64 .i64 (b : Int) (k : Int) Tryz.underlying9 (by omega) (by omega) (by omega)
            unfold stx; rw [h, ← cut_text]; simp
          clear HW hx hxd hy h92 h44
          generalize cutL s.data.toList b k = u at hR sl
          go_wp2_with (at_builtin; refine wpList_appS _ rfl (.tmp 20) (.tmp 25) rfl w.heap.size _ (stxs ws) rfl (HO.out.1.alloc _) wr.heap.size (stx u) rfl (by simp) (ws.length + 1) (by rw [htl.out]) (by omega) (by have := HO.out.2.size; simp; omega) ?_; intro g c' w1 o1 bg lg hc1 hm1 gr1)
          have HO1 : Hid (OwnS w1 w.heap.size (.slice (some ⟨g, 0, none⟩) (ws ++ [u]).length c') (stxs (ws ++ [u])) ∧ Below w.heap.size w w1) := by
            unfold Hid
            rw [stxs_more]
            have e : (ws ++ [u]).length = ws.length + 1 := by simp
            rw [e]
            exact ⟨o1, (HO.out.2.alloc HO.out.2.size _).grown gr1 (by have := HO.out.2.size; simp; omega) (fun j hj => (HO.out.1.lt j hj).1)⟩
          go_roundw
          case rel => exact ⟨ws ++ [u], some ⟨g, 0, none⟩, c', k + 1, k + 1, by simp, by go_num, by go_num, Nat.le_refl _, by omega, by omega, by simp; omega, HO1, hR⟩
          case measure => simp [intOf]; omega
        · have q1 : (y == 92) = false := beq_eq_false_iff_ne.2 (fun e => h92 (by apply UInt8.toNat_inj.1; show x.toNat = 92; omega))
          have q2 : (y == 44) = false := beq_eq_false_iff_ne.2 (fun e => h44 (by apply UInt8.toNat_inj.1; show x.toNat = 44; omega))
          have hR : Hid (PRel s.data.toList ws b (k + 1)) := by
            unfold Hid PRel
            rw [← rem_plain s.data.toList b k hbk (by rw [hSL]; exact hlt) (by rw [hxd]; exact h92) (by rw [hxd]; exact h44)]
            exact HW.out
          clear HW hx hxd hy h92 h44
          go_wp2
          go_roundw
          case rel => exact ⟨ws, ao, c, b, k + 1, rfl, rfl, by go_num, by omega, hbs, by omega, by omega, HO, hR⟩
          case measure => simp [intOf]; omega
    · have nI : ¬ (k : Int) < (s.size : Int) := by omega
      have he : Hid (ws ++ [s.data.toList.drop b] = pcs [] s.data.toList) := by
        have h := HW.out
        unfold PRel at h
        rw [rem_end s.data.toList b k (by rw [hSL]; omega)] at h
        exact h
      have ecut : cutL s.data.toList b s.size = s.data.toList.drop b := by unfold cutL; rw [List.take_of_length_le (by omega)]
      have sl : ∀ X, (Instr.slice 9 (.string s) (some (.int .i64 (b : Int))) none none).run Tryz.prog X = .ok (.string (stx (s.data.toList.drop b))) X := fun X => by
        have h := run_slice_string_l (P := Tryz.prog) (w := X) 9 s Tryz.underlying9 .i64 (b : Int) (by omega) (by omega)
        unfold stx; rw [h, ← ecut, ← cut_text]; simp
      clear ecut HW
      generalize s.data.toList.drop b = u at he sl
      go_wp2_with (at_builtin; refine wpList_appS _ rfl (.tmp 31) (.tmp 35) rfl w.heap.size _ (stxs ws) rfl (HO.out.1.alloc _) wr.heap.size (stx u) rfl (by simp) (ws.length + 1) (by rw [htl.out]) (by omega) (by have := HO.out.2.size; simp; omega) ?_; intro g c' w1 o1 bg lg hc1 hm1 gr1)
      go_ret
      have e : (pcs [] s.data.toList).length = ws.length + 1 := by rw [← he.out]; simp
      refine ⟨some ⟨g, 0, none⟩, c', by rw [e]; rfl, ?_, (HO.out.2.alloc HO.out.2.size _).grown gr1 (by have := HO.out.2.size; simp; omega) (fun j hj => (HO.out.1.lt j hj).1)⟩
      rw [e, ← he.out, stxs_more]
      exact o1

end Go.Proofs.YthnfhkmonfkceaaGreatDoor

namespace Go.Proofs.YthnfhkmonfkceaaGreatDoor

theorem digs_form (n : Nat) (h : 0 < n) (h' : n < 16777216) : ∃ d r, digs n = d :: r ∧ d ≠ 0 ∧ numOf (d :: r) = n ∧ (d :: r).length ≤ 3 := by
  unfold digs
  rw [if_neg (by omega)]
  by_cases h1 : n < 256
  · rw [if_pos h1]; exact ⟨_, _, rfl, by omega, by simp [numOf], by simp⟩
  · rw [if_neg h1]
    by_cases h2 : n < 65536
    · rw [if_pos h2]; exact ⟨_, _, rfl, by omega, by simp [numOf]; omega, by simp⟩
    · rw [if_neg h2]; exact ⟨_, _, rfl, by omega, by simp [numOf]; omega, by simp⟩

theorem takeLen_put (n : Nat) (h : n < 16777216) (ys : List Int) : takeLenS (lenB n ++ ys) = ((n : Int), ((lenB n).length : Int), 0) := by
  unfold lenB
  by_cases h1 : n < 128
  · rw [if_pos h1]
    unfold takeLenS
    simp
    omega
  · rw [if_neg h1]
    obtain ⟨d, r, e, hd, hn, hl⟩ := digs_form n (by omega) h
    rw [e]
    generalize hk : (d :: r).length = k at *
    have hk1 : 1 ≤ k := by simp at hk; omega
    unfold takeLenS
    have g0 : ((128 + (k : Int)) :: (d :: r) ++ ys).getD 0 0 = 128 + (k : Int) := by simp
    have g1 : ((128 + (k : Int)) :: (d :: r) ++ ys).getD 1 0 = d := by simp
    have gl : (((128 + (k : Int)) :: (d :: r) ++ ys).length : Int) = 1 + (k : Int) + (ys.length : Int) := by
      have : ((128 + (k : Int)) :: (d :: r) ++ ys).length = 1 + (d :: r).length + ys.length := by simp; omega
      rw [this, hk]; omega
    have gd : (((128 + (k : Int)) :: (d :: r) ++ ys).drop 1).take k = d :: r := by
      have : ((128 + (k : Int)) :: (d :: r) ++ ys).drop 1 = (d :: r) ++ ys := by simp
      rw [this, List.take_append_of_le_length (by omega), List.take_of_length_le (by omega)]
    rw [g0, g1, if_neg (by omega), if_neg (by omega), if_neg (by omega), gl, if_neg (by omega)]
    rw [show ((128 : Int) + (k : Int) - 128).toNat = k by omega, gd, hn, if_neg (by omega)]
    simp at hk
    simp
    omega

/-- The element's bytes, and whatever behind them: its tag and its content's places. -/
theorem find_put (t : Int) (ht : isTagB t = true) (xs rest : List Int) (h : xs.length < 16777216) :
    findS ([t] ++ lenB xs.length ++ xs ++ rest) = (t, 1 + ((lenB xs.length).length : Int), 1 + ((lenB xs.length).length : Int) + (xs.length : Int), 0) := by
  have hT := takeLen_put xs.length h (xs ++ rest)
  have hpos : 1 ≤ (lenB xs.length).length := by unfold lenB; split <;> simp
  have e : [t] ++ lenB xs.length ++ xs ++ rest = t :: (lenB xs.length ++ (xs ++ rest)) := by simp
  rw [e]
  generalize lenB xs.length = lb at *
  unfold findS
  have gl : (t :: (lb ++ (xs ++ rest))).length = 1 + lb.length + xs.length + rest.length := by simp; omega
  rw [gl]
  have g0 : (t :: (lb ++ (xs ++ rest))).getD 0 0 = t := by simp
  have gd : (t :: (lb ++ (xs ++ rest))).drop 1 = lb ++ (xs ++ rest) := by simp
  rw [g0, gd, hT, if_neg (by omega), if_neg (by rw [ht]; simp), if_neg (by omega)]
  simp only []
  rw [if_neg (by simp), if_neg (by omega)]

theorem cut_put (t : Int) (lb xs rest : List Int) : (([t] ++ lb ++ xs ++ rest).take (1 + lb.length + xs.length)).drop (1 + lb.length) = xs := by
  have e : [t] ++ lb ++ xs ++ rest = ([t] ++ lb) ++ (xs ++ rest) := by simp
  have hl : ([t] ++ lb).length = 1 + lb.length := by simp; omega
  rw [e, ← hl, List.take_append, List.take_of_length_le (by omega), List.drop_append]
  simp

/-- No element's bytes begin with those of another one. -/
theorem begins (t u : Int) (ht : isTagB t = true) (hu : isTagB u = true) (xs ys : List Int) (hx : xs.length < 16777216) (hy : ys.length < 16777216) (m : Nat)
    (hm : m = min ([t] ++ lenB xs.length ++ xs).length ([u] ++ lenB ys.length ++ ys).length)
    (he : ([t] ++ lenB xs.length ++ xs).take m = ([u] ++ lenB ys.length ++ ys).take m) : t = u ∧ xs = ys := by
  have key : ∀ (t u : Int) (xs ys : List Int), isTagB t = true → isTagB u = true → xs.length < 16777216 → ys.length < 16777216 →
      ([t] ++ lenB xs.length ++ xs).length ≤ ([u] ++ lenB ys.length ++ ys).length → [t] ++ lenB xs.length ++ xs = ([u] ++ lenB ys.length ++ ys).take ([t] ++ lenB xs.length ++ xs).length → t = u ∧ xs = ys := by
    intro t u xs ys ht hu hx hy hle he
    obtain ⟨rest, hr⟩ : ∃ rest, [u] ++ lenB ys.length ++ ys = [t] ++ lenB xs.length ++ xs ++ rest := by
      generalize [t] ++ lenB xs.length ++ xs = A at he
      generalize [u] ++ lenB ys.length ++ ys = B at he
      exact ⟨B.drop A.length, by have h := List.take_append_drop A.length B; rw [← he] at h; exact h.symm⟩
    have f1 := find_put t ht xs rest hx
    have f2 := find_put u hu ys [] hy
    rw [List.append_nil] at f2
    rw [← hr, f2] at f1
    simp only [Prod.mk.injEq] at f1
    obtain ⟨e1, e2, e3, _⟩ := f1
    refine ⟨e1.symm, ?_⟩
    have c1 := cut_put t (lenB xs.length) xs rest
    have c2 := cut_put u (lenB ys.length) ys []
    rw [List.append_nil] at c2
    rw [← hr] at c1
    have k1 : (lenB ys.length).length = (lenB xs.length).length := by omega
    have k2 : ys.length = xs.length := by omega
    have c3 := c1.symm
    rw [← k1, ← k2] at c3
    exact c3.trans c2
  rcases Nat.le_total ([t] ++ lenB xs.length ++ xs).length ([u] ++ lenB ys.length ++ ys).length with h | h
  · have e : m = ([t] ++ lenB xs.length ++ xs).length := by omega
    rw [e, List.take_of_length_le (Nat.le_refl _)] at he
    exact key t u xs ys ht hu hx hy h he
  · have e : m = ([u] ++ lenB ys.length ++ ys).length := by omega
    rw [e, List.take_of_length_le (Nat.le_refl ([u] ++ lenB ys.length ++ ys).length)] at he
    obtain ⟨a, b⟩ := key u t ys xs hu ht hy hx h he.symm
    exact ⟨a.symm, b.symm⟩

end Go.Proofs.YthnfhkmonfkceaaGreatDoor

namespace Go.Proofs.YthnfhkmonfkceaaGreatDoor
open Go.RowKit Go.IntWalk

/-- An element's bytes. -/
def putE (t : Int) (xs : List Int) : List Int := [t] ++ lenB xs.length ++ xs
theorem putB_eq (t : Int) (ls : List (List Int)) (ht : isTagB t = true) (hl : ls.flatten.length ≤ 16777215) : putB t ls = putE t ls.flatten := by
  unfold putB putS putE
  rw [if_neg (by simp [ht]), if_neg (by omega)]
  simp
theorem putE_len (t : Int) (xs : List Int) : (putE t xs).length ≤ xs.length + 5 := by
  have := lenB_len4 xs.length
  unfold putE
  simp only [List.length_append, List.length_cons, List.length_nil]
  omega
theorem find_putE (t : Int) (ht : isTagB t = true) (xs rest : List Int) (h : xs.length < 16777216) :
    (findS (putE t xs ++ rest)).1 = t ∧ (findS (putE t xs ++ rest)).2.2.1 = ((putE t xs).length : Int) ∧ (findS (putE t xs ++ rest)).2.2.2 = 0 ∧ contS (putE t xs ++ rest) = xs := by
  have hf := find_put t ht xs rest h
  have he : putE t xs ++ rest = [t] ++ lenB xs.length ++ xs ++ rest := rfl
  rw [he, hf]
  refine ⟨rfl, ?_, rfl, ?_⟩
  · unfold putE
    simp only [List.length_append, List.length_cons, List.length_nil]
    omega
  · unfold contS
    rw [hf]
    simp only []
    have h1 : (1 + ((lenB xs.length).length : Int) + (xs.length : Int)).toNat = 1 + (lenB xs.length).length + xs.length := by omega
    have h2 : (1 + ((lenB xs.length).length : Int)).toNat = 1 + (lenB xs.length).length := by omega
    rw [h1, h2, cut_put]
theorem one_putE (t : Int) (ht : isTagB t = true) (xs : List Int) (h : xs.length < 16777216) : oneS (putE t xs) = (t, xs, 0) := by
  obtain ⟨h1, h2, h3, h4⟩ := find_putE t ht xs [] h
  rw [List.append_nil] at h1 h2 h3 h4
  unfold oneS
  rw [if_neg (by rw [h3]; simp), if_neg (by rw [h2]; omega), h1, h4]

/-- Elements, one behind the other. -/
def catE (es : List (Int × List Int)) : List Int := (es.map (fun e => putE e.1 e.2)).flatten
theorem catE_cons (e : Int × List Int) (es : List (Int × List Int)) : catE (e :: es) = putE e.1 e.2 ++ catE es := rfl
theorem placesE_of_cat : ∀ (es : List (Int × List Int)) (pre : List Int) (f : Nat), (∀ e ∈ es, isTagB e.1 = true ∧ e.2.length < 16777216) → (catE es).length ≤ f →
    (placesF (pre ++ catE es) f pre.length).map (elS (pre ++ catE es)) = es ∧ ∀ q, (placesF (pre ++ catE es) f pre.length).getLast? = some q → q + (findS ((pre ++ catE es).drop q)).2.2.1.toNat = (pre ++ catE es).length := by
  intro es
  induction es with
  | nil =>
    intro pre f _ _
    have e : placesF (pre ++ catE []) f pre.length = [] := by
      cases f with
      | zero => rfl
      | succ f => rw [placesF, if_neg]; simp [catE]
    rw [e]
    exact ⟨rfl, fun q hq => by simp at hq⟩
  | cons e es ih =>
    intro pre f hok hf
    obtain ⟨ht, hl⟩ := hok e (by simp)
    have hd : (pre ++ (putE e.1 e.2 ++ catE es)).drop pre.length = putE e.1 e.2 ++ catE es := by
      rw [List.drop_append_of_le_length (Nat.le_refl _), List.drop_eq_nil_of_le (Nat.le_refl _), List.nil_append]
    obtain ⟨g1, g2, g3, g4⟩ := find_putE e.1 ht e.2 (catE es) hl
    have hpos : 0 < (putE e.1 e.2).length := by unfold putE; simp
    rw [catE_cons] at hf ⊢
    rw [List.length_append] at hf
    obtain ⟨f', rfl⟩ : ∃ f', f = f' + 1 := ⟨f - 1, by omega⟩
    have hlen : pre.length < (pre ++ (putE e.1 e.2 ++ catE es)).length := by simp; omega
    have hstep : placesF (pre ++ (putE e.1 e.2 ++ catE es)) (f' + 1) pre.length = pre.length :: placesF (pre ++ (putE e.1 e.2 ++ catE es)) f' (pre.length + (putE e.1 e.2).length) := by
      rw [placesF, hd, g3, g2, if_pos ⟨hlen, rfl, by omega⟩]
      simp
    have hih := ih (pre ++ putE e.1 e.2) f' (fun x hx => hok x (by simp [hx])) (by omega)
    rw [List.append_assoc, List.length_append] at hih
    have hel : elS (pre ++ (putE e.1 e.2 ++ catE es)) pre.length = e := by
      unfold elS
      rw [hd, g1, g4]
    rw [hstep, List.map_cons, hel, hih.1]
    refine ⟨rfl, fun q hq => ?_⟩
    cases hr : placesF (pre ++ (putE e.1 e.2 ++ catE es)) f' (pre.length + (putE e.1 e.2).length) with
    | nil =>
      rw [hr] at hq hih
      have hes : es = [] := by have := hih.1; simp at this; exact this
      simp at hq
      subst hq
      rw [hd, g2, hes]
      simp [catE]
    | cons a r =>
      rw [hr] at hq
      rw [List.getLast?_cons_cons] at hq
      exact hih.2 q (by rw [hr]; exact hq)
theorem placesE_all (es : List (Int × List Int)) (hok : ∀ e ∈ es, isTagB e.1 = true ∧ e.2.length < 16777216) :
    (placesS (catE es) 0).map (elS (catE es)) = es ∧ rowErr (catE es) = 0 := by
  have h := placesE_of_cat es [] (catE es).length hok (Nat.le_refl _)
  rw [List.nil_append] at h
  have h1 : placesS (catE es) 0 = placesF (catE es) (catE es).length ([] : List Int).length := rfl
  rw [← h1] at h
  refine ⟨h.1, ?_⟩
  unfold rowErr
  rw [if_neg]
  unfold endS
  cases hg : (placesS (catE es) 0).getLast? with
  | none =>
    have hn : placesS (catE es) 0 = [] := by simpa using hg
    have he : es = [] := by have := h.1; rw [hn] at this; simp at this; exact this
    subst he
    simp [catE]
  | some q =>
    have := h.2 q hg
    simp only
    omega

/-- The content of an attribute's element. -/
def bodyA (t : Int) (s : ByteArray) : List Int := putE 6 (idB t) ++ putE (kindL s.data.toList).1 (nums s.data.toList)
theorem attr_val {t : Int} {l : List UInt8} (h : attrL t l = true) : valL l = true ∧ (t = 3 ∨ t = 5 ∨ t = 6 ∨ t = 7 ∨ t = 8 ∨ t = 10 ∨ t = 11) := by
  unfold attrL at h
  split at h
  · rename_i h6
    simp only [Bool.and_eq_true] at h
    exact ⟨h.2.2, by omega⟩
  · split at h
    · rename_i h5
      simp only [Bool.and_eq_true] at h
      exact ⟨h.2, by omega⟩
    · simp only [Bool.and_eq_true] at h
      refine ⟨h.2, ?_⟩
      have := h.1
      unfold plainT at this
      simp at this
      omega
theorem val_kind {l : List UInt8} (h : valL l = true) : l.length ≤ 64 ∧ isTagB (kindL l).1 = true := by
  unfold valL at h
  simp only [Bool.and_eq_true, decide_eq_true_eq] at h
  refine ⟨by omega, ?_⟩
  unfold kindL
  split
  · decide
  · split
    · decide
    · rename_i h1
      exact absurd h.2.2 h1
theorem encA_eq (t : Int) (s : ByteArray) (h : attrL t s.data.toList = true) : encA t s = putE 49 (putE 48 (bodyA t s)) ∧ (bodyA t s).length ≤ 94 := by
  obtain ⟨hv, _⟩ := attr_val h
  obtain ⟨hl, hk⟩ := val_kind hv
  have i1 := idB_len t
  have n1 : (nums s.data.toList).length ≤ 64 := by rw [nums_len]; exact hl
  have p1 := putE_len 6 (idB t)
  have p2 := putE_len (kindL s.data.toList).1 (nums s.data.toList)
  have hb : (bodyA t s).length ≤ 94 := by unfold bodyA; rw [List.length_append]; omega
  refine ⟨?_, hb⟩
  have e1 : putB 6 [idB t] = putE 6 (idB t) := by rw [putB_eq _ _ (by decide) (by simp; omega)]; simp
  have e2 : putB (kindL s.data.toList).1 [nums s.data.toList] = putE (kindL s.data.toList).1 (nums s.data.toList) := by rw [putB_eq _ _ hk (by simp; omega)]; simp
  have e3 : [putE 6 (idB t), putE (kindL s.data.toList).1 (nums s.data.toList)].flatten = bodyA t s := by unfold bodyA; simp
  have e4 : putB 48 [putE 6 (idB t), putE (kindL s.data.toList).1 (nums s.data.toList)] = putE 48 (bodyA t s) := by rw [putB_eq _ _ (by decide) (by rw [e3]; omega), e3]
  have p3 := putE_len 48 (bodyA t s)
  unfold encA
  rw [e1, e2, e4, putB_eq _ _ (by decide) (by simp; omega)]
  simp
theorem dec_id (t : Int) (h : t = 3 ∨ t = 5 ∨ t = 6 ∨ t = 7 ∨ t = 8 ∨ t = 10 ∨ t = 11) : (decS (idB t)).1 = [2, 5, 4, t] ∧ (idB t).length = 3 ∧ (idB t).getD 2 0 = t := by
  rcases h with rfl | rfl | rfl | rfl | rfl | rfl | rfl <;> decide
theorem text_back (s : ByteArray) : strOfNums (nums s.data.toList) = s := by rw [nums_text]
theorem dcA_eq (t : Int) (s : ByteArray) (h : attrL t s.data.toList = true) : dcA (putE 48 (bodyA t s)) = (t, s) := by
  obtain ⟨hv, ht⟩ := attr_val h
  obtain ⟨hl, hk⟩ := val_kind hv
  obtain ⟨_, hb⟩ := encA_eq t s h
  obtain ⟨d1, d2, d3⟩ := dec_id t ht
  have n1 : (nums s.data.toList).length ≤ 64 := by rw [nums_len]; exact hl
  have hP : dcP (putE 48 (bodyA t s)) = bodyA t s := by unfold dcP; rw [one_putE 48 (by decide) _ (by omega)]
  obtain ⟨f1, f2, f3, f4⟩ := find_putE 6 (by decide) (idB t) (putE (kindL s.data.toList).1 (nums s.data.toList)) (by omega)
  have hI : dcI (putE 48 (bodyA t s)) = [2, 5, 4, t] := by unfold dcI; rw [hP]; unfold bodyA; rw [f4, d1]
  have hV : dcV (putE 48 (bodyA t s)) = nums s.data.toList := by
    unfold dcV
    rw [hP]
    unfold bodyA
    rw [f2, Int.toNat_natCast, List.drop_append_of_le_length (Nat.le_refl _), List.drop_eq_nil_of_le (Nat.le_refl _), List.nil_append, one_putE _ hk _ (by omega)]
  unfold dcA
  rw [hI, hV, if_pos (show [2, 5, 4, t].length = 4 from rfl), text_back]
  rfl

/-- The name that a name's bytes may be: what name.Decode reads. -/
def decN (xs : List Int) : List (Int × ByteArray) := ((placesS (oneS xs).2.1 0).map (fun p => dcA (contS ((oneS xs).2.1.drop p)))).take 17
/-- A name's bytes, as rows of elements. -/
def rowsN (n : List (Int × ByteArray)) : List (Int × List Int) := n.map (fun x => (49, putE 48 (bodyA x.1 x.2)))
theorem name_all {n : List (Int × ByteArray)} (h : nameL n = true) : n.length ≤ 16 ∧ ∀ x ∈ n, attrL x.1 x.2.data.toList = true := by
  unfold nameL at h
  simp only [Bool.and_eq_true, decide_eq_true_eq, List.all_eq_true] at h
  exact h
theorem encR_rows : ∀ (n : List (Int × ByteArray)), (∀ x ∈ n, attrL x.1 x.2.data.toList = true) → encR n = catE (rowsN n) ∧ (encR n).length ≤ n.length * 104
  | [], _ => ⟨rfl, Nat.le_refl _⟩
  | x :: r, h => by
    obtain ⟨h1, h2⟩ := encR_rows r (fun y hy => h y (by simp [hy]))
    obtain ⟨e1, e2⟩ := encA_eq x.1 x.2 (h x (by simp))
    have p1 := putE_len 48 (bodyA x.1 x.2)
    have p2 := putE_len 49 (putE 48 (bodyA x.1 x.2))
    have hc : encR (x :: r) = encA x.1 x.2 ++ encR r := rfl
    refine ⟨?_, ?_⟩
    · rw [hc, e1, h1]; rfl
    · rw [hc, e1, List.length_append, List.length_cons]; omega
theorem rows_ok {n : List (Int × ByteArray)} (h : ∀ x ∈ n, attrL x.1 x.2.data.toList = true) : ∀ e ∈ rowsN n, isTagB e.1 = true ∧ e.2.length < 16777216 := by
  intro e he
  obtain ⟨x, hx, rfl⟩ := List.mem_map.1 he
  obtain ⟨_, e2⟩ := encA_eq x.1 x.2 (h x hx)
  have p1 := putE_len 48 (bodyA x.1 x.2)
  exact ⟨(show isTagB 49 = true from by decide), by simp only; omega⟩
theorem enc_parts {n : List (Int × ByteArray)} (h : nameL n = true) : encNC n = putE 48 (catE (rowsN n)) ∧ (catE (rowsN n)).length < 16777216 := by
  obtain ⟨h1, h2⟩ := name_all h
  obtain ⟨e1, e2⟩ := encR_rows n h2
  have hl : (catE (rowsN n)).length < 16777216 := by rw [← e1]; omega
  refine ⟨?_, hl⟩
  unfold encNC
  rw [if_pos h, putB_eq _ _ (by decide) (by simp; omega), ← e1]
  simp
theorem map_back {α β : Type} (f : β → α) (g : α → β) : ∀ (n : List α), (∀ x ∈ n, f (g x) = x) → (n.map g).map f = n
  | [], _ => rfl
  | x :: r, h => by rw [List.map_cons, List.map_cons, h x (by simp), map_back f g r (fun y hy => h y (by simp [hy]))]
theorem decN_enc {n : List (Int × ByteArray)} (h : nameL n = true) : decN (encNC n) = n := by
  obtain ⟨h1, h2⟩ := name_all h
  obtain ⟨e1, e2⟩ := enc_parts h
  obtain ⟨p1, _⟩ := placesE_all (rowsN n) (rows_ok h2)
  unfold decN
  rw [e1, one_putE 48 (by decide) _ e2]
  simp only []
  have e3 : (placesS (catE (rowsN n)) 0).map (fun p => dcA (contS ((catE (rowsN n)).drop p))) = ((placesS (catE (rowsN n)) 0).map (elS (catE (rowsN n)))).map (fun e => dcA e.2) := by
    rw [List.map_map]; rfl
  rw [e3, p1]
  have e4 : (rowsN n).map (fun e => dcA e.2) = n := by
    unfold rowsN
    refine map_back _ _ n (fun x hx => ?_)
    have h9 := dcA_eq x.1 x.2 (h2 x hx)
    dsimp only
    generalize putE 48 (bodyA x.1 x.2) = Y at h9 ⊢
    rw [h9]
  rw [e4, List.take_of_length_le (by omega)]

/-- What the document reads in a content. -/
def insS (xs : List Int) (tag : Int) : Option (List (Int × List Int)) :=
  if (oneS xs).2.2 = 0 ∧ (oneS xs).1 = tag ∧ rowErr (oneS xs).2.1 = 0 then some ((placesS (oneS xs).2.1 0).map (elS (oneS xs).2.1)) else none
def gsE (X : List Int) : Option (Int × ByteArray) :=
  match insS X 48 with
  | some [a, b] => if a.2.length = 3 then some (a.2.getD 2 0, strOfNums b.2) else none
  | _ => none
def gsL : List (Int × List Int) → Option (List (Int × ByteArray))
  | [] => some []
  | e :: r => match gsE e.2 with
    | some a => (gsL r).map (fun l => a :: l)
    | none => none
def gsN (xs : List Int) : List (Int × ByteArray) := (gsL ((insS xs 48).getD [])).getD []
theorem ins_put (tag : Int) (ht : isTagB tag = true) (es : List (Int × List Int)) (hok : ∀ e ∈ es, isTagB e.1 = true ∧ e.2.length < 16777216) (hl : (catE es).length < 16777216) : insS (putE tag (catE es)) tag = some es := by
  obtain ⟨p1, p2⟩ := placesE_all es hok
  unfold insS
  rw [one_putE tag ht _ hl, if_pos ⟨rfl, rfl, p2⟩, p1]
theorem gsE_eq (t : Int) (s : ByteArray) (h : attrL t s.data.toList = true) : gsE (putE 48 (bodyA t s)) = some (t, s) := by
  obtain ⟨hv, ht⟩ := attr_val h
  obtain ⟨hl, hk⟩ := val_kind hv
  obtain ⟨_, hb⟩ := encA_eq t s h
  obtain ⟨d1, d2, d3⟩ := dec_id t ht
  have n1 : (nums s.data.toList).length ≤ 64 := by rw [nums_len]; exact hl
  have e : bodyA t s = catE [(6, idB t), ((kindL s.data.toList).1, nums s.data.toList)] := by unfold bodyA catE; simp
  unfold gsE
  rw [e, ins_put 48 (by decide) _ (by
    intro e he
    simp at he
    rcases he with rfl | rfl
    · exact ⟨(show isTagB 6 = true from by decide), by simp only; omega⟩
    · exact ⟨hk, by simp only; omega⟩) (by rw [← e]; omega)]
  simp only []
  rw [if_pos d2, d3, text_back]
theorem gsL_rows : ∀ (n : List (Int × ByteArray)), (∀ x ∈ n, attrL x.1 x.2.data.toList = true) → gsL (rowsN n) = some n
  | [], _ => rfl
  | x :: r, h => by
    have h1 := gsL_rows r (fun y hy => h y (by simp [hy]))
    have h2 := gsE_eq x.1 x.2 (h x (by simp))
    have e : rowsN (x :: r) = (49, putE 48 (bodyA x.1 x.2)) :: rowsN r := rfl
    rw [e]
    simp only [gsL, h1, h2, Option.map_some]
theorem gsN_enc {n : List (Int × ByteArray)} (h : nameL n = true) : gsN (encNC n) = n := by
  obtain ⟨h1, h2⟩ := name_all h
  obtain ⟨e1, e2⟩ := enc_parts h
  unfold gsN
  rw [e1, ins_put 48 (by decide) _ (rows_ok h2) e2]
  simp only [Option.getD_some]
  rw [gsL_rows n h2]
  rfl

/-- What bytes are read as, by the document; and the error. -/
def okN (xs : List Int) (n : List (Int × ByteArray)) : Bool := nameL n && decide (encNC n = xs)
theorem ok_both (xs : List Int) : okN xs (decN xs) = okN xs (gsN xs) ∧ (okN xs (decN xs) = true → decN xs = gsN xs) := by
  have key : ∀ n, okN xs n = true → decN xs = n ∧ gsN xs = n := by
    intro n hn
    unfold okN at hn
    simp only [Bool.and_eq_true, decide_eq_true_eq] at hn
    obtain ⟨hn, rfl⟩ := hn
    exact ⟨decN_enc hn, gsN_enc hn⟩
  refine ⟨?_, fun h => (key _ h).2.symm⟩
  cases h1 : okN xs (decN xs) with
  | true => rw [(key _ h1).2, h1]
  | false =>
    cases h2 : okN xs (gsN xs) with
    | false => rfl
    | true => rw [(key _ h2).1, h2] at h1; cases h1
def ansN (xs : List Int) : List (Int × ByteArray) := if (oneS xs).2.2 ≠ 0 then [] else if okN xs (decN xs) = true then decN xs else []
def ansE (xs : List Int) : Int := if (oneS xs).2.2 ≠ 0 then (oneS xs).2.2 else if okN xs (decN xs) = true then 0 else 120

end Go.Proofs.YthnfhkmonfkceaaGreatDoor
