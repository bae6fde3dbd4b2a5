/-
  The document's Parts, as a call.
  What is put is found again: the plain functions undo one another. No Go, no program.
-/
import Derived.Test.YtgbbgfjamneioaaDoorXNmTypToNmIt
import Derived.Test.YtgbbgfjamneioaaDoorXCloneToFindIt
namespace Go.Proofs.YtgbbgfjamneioaaDoor
open Go.RowKit Go.IntWalk

def stx (l : List UInt8) : ByteArray := ⟨l.toArray⟩
def stxs (ws : List (List UInt8)) : List ByteArray := ws.map stx
theorem stxs_more (ws : List (List UInt8)) (u : List UInt8) : stxs (ws ++ [u]) = stxs ws ++ [stx u] := by simp [stxs]
theorem stxs_len (ws : List (List UInt8)) : (stxs ws).length = ws.length := by simp [stxs]
theorem stxs_get (ws : List (List UInt8)) (k : Nat) (h : k < ws.length) : (stxs ws)[k]? = some (stx (ws[k]'h)) := by simp [stxs, h]

/-- The pieces so far are ws, and what is left stands ahead. -/
def PRel (l : List UInt8) (ws : List (List UInt8)) (b k : Nat) : Prop := ws ++ remP l b k = pcs [] l

set_option maxRecDepth 100000 in
set_option maxHeartbeats 2000000 in
theorem rparts_any (s : ByteArray) (hs : s.size ≤ 1048576) (w : World) :
    Calls Tryd.prog 20 #[.string s] w fun e w' => ∃ ao c, e = .returned (.slice ao (pcs [] s.data.toList).length c) ∧ OwnS w' w.heap.size (.slice ao (pcs [] s.data.toList).length c) (stxs (pcs [] s.data.toList)) ∧ Below w.heap.size w w' := by
  have hSL := bs_len s
  have hP0 : Hid (PRel s.data.toList [] 0 0) := by
    unfold Hid PRel remP
    rw [if_pos (Nat.zero_le _)]
    rfl
  go_enter Tryd.func20, Tryd.ntmps20
  go_wp2
  go_loopw [3, 4, 5] (fun l f i wr => ∃ (ws : List (List UInt8)) (ao : Option Addr) (c b k : Nat), l = .slice ao ws.length c ∧ f = .int .i64 b ∧ i = .int .i64 k ∧ b ≤ k ∧ b ≤ s.size ∧ k ≤ s.size + 1 ∧ ws.length ≤ k ∧ Hid (OwnS wr w.heap.size (.slice ao ws.length c) (stxs ws) ∧ Below w.heap.size w wr) ∧ Hid (PRel s.data.toList ws b k)) (fun _ _ i _ => s.size - (intOf i).toNat)
  case atStart => exact ⟨[], none, 0, 0, 0, rfl, rfl, rfl, Nat.le_refl _, Nat.zero_le _, Nat.zero_le _, Nat.le_refl _, ⟨OwnS.nil _ _, Below.refl _ _⟩, hP0⟩
  case round =>
    obtain ⟨ws, ao, c, b, k, rfl, rfl, rfl, hbk, hbs, hks, hwk, HO, HW⟩ := hrel
    have htl := hide (stxs_len ws)
    by_cases hlt : k < s.size
    · have ltI : (k : Int) < (s.size : Int) := by omega
      obtain ⟨x, hx⟩ : ∃ x, (s[k]'hlt) = x := ⟨_, rfl⟩
      have hxd : s.data.toList.getD k 0 = x := by rw [← get_bs s k hlt]; exact hx
      have hxI : ((s[k]'hlt).toNat : Int) = (x.toNat : Int) := by rw [hx]
      have hx256 := x.toNat_lt
      obtain ⟨y, hy⟩ : ∃ y : Int, (x.toNat : Int) = y := ⟨_, rfl⟩
      rw [hy] at hxI
      by_cases h92 : x = 92
      · have q1 : (y == 92) = true := by rw [← hy, h92]; rfl
        have hR : Hid (PRel s.data.toList ws b (k + 2)) := by
          unfold Hid PRel
          rcases Nat.lt_or_ge (k + 1) s.size with h' | h'
          · rw [← rem_mark2 s.data.toList b k hbk (by rw [hSL]; exact h') (by rw [hxd, h92])]; exact HW.out
          · rw [← rem_mark1 s.data.toList b k hbk (by rw [hSL]; omega) (by rw [hxd, h92])]; exact HW.out
        clear HW hx hxd hy h92
        go_wp2
        go_roundw
        case rel => exact ⟨ws, ao, c, b, k + 2, rfl, rfl, by go_num, by omega, hbs, by omega, by omega, HO, hR⟩
        case measure => simp [intOf]; omega
      · by_cases h44 : x = 44
        · have q1 : (y == 92) = false := by rw [← hy, h44]; rfl
          have q2 : (y == 44) = true := by rw [← hy, h44]; rfl
          have hR : Hid (PRel s.data.toList (ws ++ [cutL s.data.toList b k]) (k + 1) (k + 1)) := by
            unfold Hid PRel
            have h := HW.out
            unfold PRel at h
            rw [rem_comma s.data.toList b k (by rw [hSL]; exact hlt) (by rw [hxd, h44])] at h
            rw [← h]
            simp
          have sl : ∀ X, (Instr.slice 9 (.string s) (some (.int .i64 (b : Int))) (some (.int .i64 (k : Int))) none).run Tryd.prog X = .ok (.string (stx (cutL s.data.toList b k))) X := fun X => by
            have h := run_slice_string (P := Tryd.prog) (w := X) 9 s .i64 .i64 (b : Int) (k : Int) Tryd.underlying9 (by omega) (by omega) (by omega)
            unfold stx; rw [h, ← cut_text]; simp
          clear HW hx hxd hy h92 h44
          generalize cutL s.data.toList b k = u at hR sl
          go_wp2_with (at_builtin; refine wpList_appS _ rfl (.tmp 20) (.tmp 25) rfl w.heap.size _ (stxs ws) rfl (HO.out.1.alloc _) wr.heap.size (stx u) rfl (by simp) (ws.length + 1) (by rw [htl.out]) (by omega) (by have := HO.out.2.size; simp; omega) ?_; intro g c' w1 o1 bg lg hc1 hm1 gr1)
          have HO1 : Hid (OwnS w1 w.heap.size (.slice (some ⟨g, 0, none⟩) (ws ++ [u]).length c') (stxs (ws ++ [u])) ∧ Below w.heap.size w w1) := by
            unfold Hid
            rw [stxs_more]
            have e : (ws ++ [u]).length = ws.length + 1 := by simp
            rw [e]
            exact ⟨o1, (HO.out.2.alloc HO.out.2.size _).grown gr1 (by have := HO.out.2.size; simp; omega) (fun j hj => (HO.out.1.lt j hj).1)⟩
          go_roundw
          case rel => exact ⟨ws ++ [u], some ⟨g, 0, none⟩, c', k + 1, k + 1, by simp, by go_num, by go_num, Nat.le_refl _, by omega, by omega, by simp; omega, HO1, hR⟩
          case measure => simp [intOf]; omega
        · have q1 : (y == 92) = false := beq_eq_false_iff_ne.2 (fun e => h92 (by apply UInt8.toNat_inj.1; show x.toNat = 92; omega))
          have q2 : (y == 44) = false := beq_eq_false_iff_ne.2 (fun e => h44 (by apply UInt8.toNat_inj.1; show x.toNat = 44; omega))
          have hR : Hid (PRel s.data.toList ws b (k + 1)) := by
            unfold Hid PRel
            rw [← rem_plain s.data.toList b k hbk (by rw [hSL]; exact hlt) (by rw [hxd]; exact h92) (by rw [hxd]; exact h44)]
            exact HW.out
          clear HW hx hxd hy h92 h44
          go_wp2
          go_roundw
          case rel => exact ⟨ws, ao, c, b, k + 1, rfl, rfl, by go_num, by omega, hbs, by omega, by omega, HO, hR⟩
          case measure => simp [intOf]; omega
    · have nI : ¬ (k : Int) < (s.size : Int) := by omega
      have he : Hid (ws ++ [s.data.toList.drop b] = pcs [] s.data.toList) := by
        have h := HW.out
        unfold PRel at h
        rw [rem_end s.data.toList b k (by rw [hSL]; omega)] at h
        exact h
      have ecut : cutL s.data.toList b s.size = s.data.toList.drop b := by unfold cutL; rw [List.take_of_length_le (by omega)]
      have sl : ∀ X, (Instr.slice 9 (.string s) (some (.int .i64 (b : Int))) none none).run Tryd.prog X = .ok (.string (stx (s.data.toList.drop b))) X := fun X => by
        have h := run_slice_string_l (P := Tryd.prog) (w := X) 9 s Tryd.underlying9 .i64 (b : Int) (by omega) (by omega)
        unfold stx; rw [h, ← ecut, ← cut_text]; simp
      clear ecut HW
      generalize s.data.toList.drop b = u at he sl
      go_wp2_with (at_builtin; refine wpList_appS _ rfl (.tmp 31) (.tmp 35) rfl w.heap.size _ (stxs ws) rfl (HO.out.1.alloc _) wr.heap.size (stx u) rfl (by simp) (ws.length + 1) (by rw [htl.out]) (by omega) (by have := HO.out.2.size; simp; omega) ?_; intro g c' w1 o1 bg lg hc1 hm1 gr1)
      go_ret
      have e : (pcs [] s.data.toList).length = ws.length + 1 := by rw [← he.out]; simp
      refine ⟨some ⟨g, 0, none⟩, c', by rw [e]; rfl, ?_, (HO.out.2.alloc HO.out.2.size _).grown gr1 (by have := HO.out.2.size; simp; omega) (fun j hj => (HO.out.1.lt j hj).1)⟩
      rw [e, ← he.out, stxs_more]
      exact o1

end Go.Proofs.YtgbbgfjamneioaaDoor

namespace Go.Proofs.YtgbbgfjamneioaaDoor

theorem digs_form (n : Nat) (h : 0 < n) (h' : n < 16777216) : ∃ d r, digs n = d :: r ∧ d ≠ 0 ∧ numOf (d :: r) = n ∧ (d :: r).length ≤ 3 := by
  unfold digs
  rw [if_neg (by omega)]
  by_cases h1 : n < 256
  · rw [if_pos h1]; exact ⟨_, _, rfl, by omega, by simp [numOf], by simp⟩
  · rw [if_neg h1]
    by_cases h2 : n < 65536
    · rw [if_pos h2]; exact ⟨_, _, rfl, by omega, by simp [numOf]; omega, by simp⟩
    · rw [if_neg h2]; exact ⟨_, _, rfl, by omega, by simp [numOf]; omega, by simp⟩

theorem takeLen_put (n : Nat) (h : n < 16777216) (ys : List Int) : takeLenS (lenB n ++ ys) = ((n : Int), ((lenB n).length : Int), 0) := by
  unfold lenB
  by_cases h1 : n < 128
  · rw [if_pos h1]
    unfold takeLenS
    simp
    omega
  · rw [if_neg h1]
    obtain ⟨d, r, e, hd, hn, hl⟩ := digs_form n (by omega) h
    rw [e]
    generalize hk : (d :: r).length = k at *
    have hk1 : 1 ≤ k := by simp at hk; omega
    unfold takeLenS
    have g0 : ((128 + (k : Int)) :: (d :: r) ++ ys).getD 0 0 = 128 + (k : Int) := by simp
    have g1 : ((128 + (k : Int)) :: (d :: r) ++ ys).getD 1 0 = d := by simp
    have gl : (((128 + (k : Int)) :: (d :: r) ++ ys).length : Int) = 1 + (k : Int) + (ys.length : Int) := by
      have : ((128 + (k : Int)) :: (d :: r) ++ ys).length = 1 + (d :: r).length + ys.length := by simp; omega
      rw [this, hk]; omega
    have gd : (((128 + (k : Int)) :: (d :: r) ++ ys).drop 1).take k = d :: r := by
      have : ((128 + (k : Int)) :: (d :: r) ++ ys).drop 1 = (d :: r) ++ ys := by simp
      rw [this, List.take_append_of_le_length (by omega), List.take_of_length_le (by omega)]
    rw [g0, g1, if_neg (by omega), if_neg (by omega), if_neg (by omega), gl, if_neg (by omega)]
    rw [show ((128 : Int) + (k : Int) - 128).toNat = k by omega, gd, hn, if_neg (by omega)]
    simp at hk
    simp
    omega

/-- The element's bytes, and whatever behind them: its tag and its content's places. -/
theorem find_put (t : Int) (ht : isTagB t = true) (xs rest : List Int) (h : xs.length < 16777216) :
    findS ([t] ++ lenB xs.length ++ xs ++ rest) = (t, 1 + ((lenB xs.length).length : Int), 1 + ((lenB xs.length).length : Int) + (xs.length : Int), 0) := by
  have hT := takeLen_put xs.length h (xs ++ rest)
  have hpos : 1 ≤ (lenB xs.length).length := by unfold lenB; split <;> simp
  have e : [t] ++ lenB xs.length ++ xs ++ rest = t :: (lenB xs.length ++ (xs ++ rest)) := by simp
  rw [e]
  generalize lenB xs.length = lb at *
  unfold findS
  have gl : (t :: (lb ++ (xs ++ rest))).length = 1 + lb.length + xs.length + rest.length := by simp; omega
  rw [gl]
  have g0 : (t :: (lb ++ (xs ++ rest))).getD 0 0 = t := by simp
  have gd : (t :: (lb ++ (xs ++ rest))).drop 1 = lb ++ (xs ++ rest) := by simp
  rw [g0, gd, hT, if_neg (by omega), if_neg (by rw [ht]; simp), if_neg (by omega)]
  simp only []
  rw [if_neg (by simp), if_neg (by omega)]

theorem cut_put (t : Int) (lb xs rest : List Int) : (([t] ++ lb ++ xs ++ rest).take (1 + lb.length + xs.length)).drop (1 + lb.length) = xs := by
  have e : [t] ++ lb ++ xs ++ rest = ([t] ++ lb) ++ (xs ++ rest) := by simp
  have hl : ([t] ++ lb).length = 1 + lb.length := by simp; omega
  rw [e, ← hl, List.take_append, List.take_of_length_le (by omega), List.drop_append]
  simp

/-- No element's bytes begin with those of another one. -/
theorem begins (t u : Int) (ht : isTagB t = true) (hu : isTagB u = true) (xs ys : List Int) (hx : xs.length < 16777216) (hy : ys.length < 16777216) (m : Nat)
    (hm : m = min ([t] ++ lenB xs.length ++ xs).length ([u] ++ lenB ys.length ++ ys).length)
    (he : ([t] ++ lenB xs.length ++ xs).take m = ([u] ++ lenB ys.length ++ ys).take m) : t = u ∧ xs = ys := by
  have key : ∀ (t u : Int) (xs ys : List Int), isTagB t = true → isTagB u = true → xs.length < 16777216 → ys.length < 16777216 →
      ([t] ++ lenB xs.length ++ xs).length ≤ ([u] ++ lenB ys.length ++ ys).length → [t] ++ lenB xs.length ++ xs = ([u] ++ lenB ys.length ++ ys).take ([t] ++ lenB xs.length ++ xs).length → t = u ∧ xs = ys := by
    intro t u xs ys ht hu hx hy hle he
    obtain ⟨rest, hr⟩ : ∃ rest, [u] ++ lenB ys.length ++ ys = [t] ++ lenB xs.length ++ xs ++ rest := by
      generalize [t] ++ lenB xs.length ++ xs = A at he
      generalize [u] ++ lenB ys.length ++ ys = B at he
      exact ⟨B.drop A.length, by have h := List.take_append_drop A.length B; rw [← he] at h; exact h.symm⟩
    have f1 := find_put t ht xs rest hx
    have f2 := find_put u hu ys [] hy
    rw [List.append_nil] at f2
    rw [← hr, f2] at f1
    simp only [Prod.mk.injEq] at f1
    obtain ⟨e1, e2, e3, _⟩ := f1
    refine ⟨e1.symm, ?_⟩
    have c1 := cut_put t (lenB xs.length) xs rest
    have c2 := cut_put u (lenB ys.length) ys []
    rw [List.append_nil] at c2
    rw [← hr] at c1
    have k1 : (lenB ys.length).length = (lenB xs.length).length := by omega
    have k2 : ys.length = xs.length := by omega
    have c3 := c1.symm
    rw [← k1, ← k2] at c3
    exact c3.trans c2
  rcases Nat.le_total ([t] ++ lenB xs.length ++ xs).length ([u] ++ lenB ys.length ++ ys).length with h | h
  · have e : m = ([t] ++ lenB xs.length ++ xs).length := by omega
    rw [e, List.take_of_length_le (Nat.le_refl _)] at he
    exact key t u xs ys ht hu hx hy h he
  · have e : m = ([u] ++ lenB ys.length ++ ys).length := by omega
    rw [e, List.take_of_length_le (Nat.le_refl ([u] ++ lenB ys.length ++ ys).length)] at he
    obtain ⟨a, b⟩ := key u t ys xs hu ht hy hx h he.symm
    exact ⟨a.symm, b.symm⟩

end Go.Proofs.YtgbbgfjamneioaaDoor
