/-
  num.shortest drops the bytes ahead that say nothing, as a plain function of the bytes says it (shortS); num.idle, num.below0.
  Natural numbers as bytes, plain functions; the reference's bare.
  num.Nat lays the content of a natural number into new memory, as the plain function natS says; the reference's Nat as well.
  What is put is found again: the plain functions undo one another. No Go, no program.
-/
import Derived.Test.YtnabmdpgibnkaabDoorYNOwn
import Derived.WalkMore
import Derived.Test.YtnabmdpgibnkaabDoorYSpecToPut
namespace Go.Proofs.YtnabmdpgibnkaabDoor
open Go.RowKit Go.IntWalk

def idleS (x y : Int) : Bool := (decide (x = 0) && decide (y < 128)) || (decide (x = 255) && decide (128 ≤ y))

def shortS : List Int → List Int
  | [] => []
  | [x] => [x]
  | x :: y :: r => if idleS x y then shortS (y :: r) else x :: y :: r

theorem shortS_mem : ∀ (xs : List Int) (x : Int), x ∈ shortS xs → x ∈ xs
  | [], _, h => h
  | [_], _, h => h
  | x :: y :: r, z, h => by
    unfold shortS at h
    split at h
    · exact List.mem_cons_of_mem _ (shortS_mem (y :: r) z h)
    · exact h

theorem shortS_len : ∀ xs : List Int, (shortS xs).length ≤ xs.length
  | [] => Nat.le_refl _
  | [_] => Nat.le_refl _
  | x :: y :: r => by
    unfold shortS
    split
    · have := shortS_len (y :: r)
      simp only [List.length_cons] at this ⊢
      omega
    · exact Nat.le_refl _

theorem below0_any (x : Int) (w : World) :
    Calls Tryd.prog 106 #[.int .u8 x] w fun e w' => e = .returned (.bool (decide (128 ≤ x))) ∧ w' = w := by
  go_enter Tryd.func106, Tryd.ntmps106
  go_wp2
  go_ret
  exact ⟨rfl, rfl⟩

set_option maxRecDepth 100000 in
set_option maxHeartbeats 1000000 in
theorem idle_any (x y : Int) (w : World) :
    Calls Tryd.prog 107 #[.int .u8 x, .int .u8 y] w fun e w' => e = .returned (.bool (idleS x y)) ∧ w' = w := by
  by_cases h0 : x = 0
  · subst h0
    by_cases h1 : y < 128
    · go_enter Tryd.func107, Tryd.ntmps107
      go_wp2_with (go_at_call 106; refine (below0_any _ _).mono ?_; rintro e w0 ⟨rfl, hw0⟩; have hw1 := hw0.symm; subst hw1)
      go_ret
      exact ⟨by simp [idleS]; try omega, rfl⟩
    · go_enter Tryd.func107, Tryd.ntmps107
      go_wp2_with (go_at_call 106; refine (below0_any _ _).mono ?_; rintro e w0 ⟨rfl, hw0⟩; have hw1 := hw0.symm; subst hw1)
      go_ret
      exact ⟨by simp [idleS]; try omega, rfl⟩
  · by_cases h2 : x = 255
    · subst h2
      go_enter Tryd.func107, Tryd.ntmps107
      go_wp2_with (go_at_call 106; refine (below0_any _ _).mono ?_; rintro e w0 ⟨rfl, hw0⟩; have hw1 := hw0.symm; subst hw1)
      go_ret
      exact ⟨by simp [idleS]; try omega, rfl⟩
    · go_enter Tryd.func107, Tryd.ntmps107
      go_wp2_with (go_at_call 106; refine (below0_any _ _).mono ?_; rintro e w0 ⟨rfl, hw0⟩; have hw1 := hw0.symm; subst hw1)
      go_ret
      exact ⟨by simp [idleS]; try omega, rfl⟩

theorem idle_quiet (x y : Int) (w : World) :
    Calls Tryd.prog 107 #[.int .u8 x, .int .u8 y] w fun e w' => e = .returned (.bool (idleS x y)) ∧ ∃ q, w' = w.drewN q :=
  (idle_any x y w).mono fun e w' ⟨h1, h2⟩ => ⟨h1, 0, by rw [h2]; rfl⟩

set_option maxRecDepth 100000 in
set_option maxHeartbeats 1000000 in
theorem shortest_any (base : Nat) (ao : Option Addr) (n cap : Nat) (xs : List Int) (w : World) (hb : ∀ x ∈ xs, 0 ≤ x ∧ x < 256) (ho : OwnO w base ao n cap xs) :
    Calls Tryd.prog 77 #[.slice ao n cap] w fun e w' => ∃ ao' c', e = .returned (.slice ao' (shortS xs).length c') ∧ OwnO w' base ao' (shortS xs).length c' (shortS xs) ∧ Drawn w w' := by
  go_enter Tryd.func77, Tryd.ntmps77
  go_wp2
  go_step3
  go_wp2
  go_step3
  go_wp2
  go_loopw [0] (fun v wr => ∃ (m : Nat) (ao' : Option Addr) (c' : Nat) (ys : List Int), v = .slice ao' m c' ∧ shortS ys = shortS xs ∧ m ≤ n ∧ (∀ y ∈ ys, 0 ≤ y ∧ y < 256) ∧ OwnO wr base ao' m c' ys ∧ Drawn w wr) (fun v _ => match v with | .slice _ m _ => m | _ => 0)
  case atStart => exact ⟨n, ao, cap, xs, rfl, rfl, Nat.le_refl _, hb, ho, Drawn.refl _⟩
  case round =>
    obtain ⟨m, ao', c', ys, rfl, hsh, hm, hby, hoy, hd⟩ := hrel
    have hl := hoy.len
    match ys, hsh, hby, hoy, hl with
    | [], hsh, hby, hoy, hl =>
      obtain rfl : m = 0 := by simpa using hl.symm
      go_wp2
      simp only [Exit.noGoto_ret]
      go_ret
      exact ⟨_, _, by rw [← hsh]; rfl, by rw [← hsh]; exact hoy, hd⟩
    | [x], hsh, hby, hoy, hl =>
      obtain rfl : m = 1 := by simpa using hl.symm
      go_wp2
      simp only [Exit.noGoto_ret]
      go_ret
      exact ⟨_, _, by rw [← hsh]; rfl, by rw [← hsh]; exact hoy, hd⟩
    | x :: y :: r, hsh, hby, hoy, hl =>
      have hm2 : 2 ≤ m := by simp at hl; omega
      obtain ⟨q, rfl⟩ : ∃ q, m = q + 2 := ⟨m - 2, by omega⟩
      have hs := hoy.src hby
      obtain ⟨b, off, rfl, hc⟩ := hs.hrd (by simp)
      have c0 := hc 0 (by simp)
      have c1 := hc 1 (by simp)
      simp only [Nat.add_zero, List.getD, List.getElem?_cons_zero, List.getElem?_cons_succ, Option.getD_some] at c0 c1
      have c0h := hide c0
      have c1h := hide c1
      clear hc
      have sl := fun W => slice_lo W (some ⟨b, off, none⟩) (q + 2) c' 1 1 rfl (by omega)
      have ht := hide (OwnO.tail hoy (by omega))
      clear c0 c1
      have k0 : wr.cell? ⟨b, off, none⟩ = some (.int .u8 x) := c0h.out
      have k1 : wr.cell? ⟨b, off + 1, none⟩ = some (.int .u8 y) := c1h.out
      go_wp2_with fail
      go_quiet ((go_at_call 107; exact Calls.quiet_of_same (idle_any x y _)))
      go_wp2
      · rename_i hi
        go_roundw
        case rel => exact ⟨q + 1, _, _, y :: r, rfl, by rw [← hsh]; conv => rhs; unfold shortS; rw [if_pos hi], by omega, fun z hz => hby z (List.mem_cons_of_mem _ hz), ht.out.heap rfl, hd.more _⟩
        case measure => simp
      · rename_i hi
        have e1 : shortS xs = x :: y :: r := by rw [← hsh]; unfold shortS; rw [if_neg (by simp [hi])]
        simp only [Exit.noGoto_ret]
        go_ret
        rw [e1, hl]
        exact ⟨_, _, rfl, hoy.heap rfl, hd.more _⟩

end Go.Proofs.YtnabmdpgibnkaabDoor

namespace Go.Proofs.YtnabmdpgibnkaabDoor
open Go.RowKit Go.IntWalk

def bareS : List Int → List Int
  | [] => []
  | x :: r => if x = 0 then bareS r else x :: r

def natS (xs : List Int) : List Int := shortS (0 :: xs)

def natR : List Int → List Int
  | [] => [0]
  | y :: r => if 128 ≤ y then 0 :: y :: r else y :: r

theorem shortS_same (x : Int) (r : List Int) (h : x ≠ 0) (h' : x ≠ 255) : shortS (x :: r) = x :: r := by
  cases r with
  | nil => rfl
  | cons y r => unfold shortS; rw [if_neg (by simp [idleS, h, h'])]

theorem natS_eq : ∀ xs : List Int, natS xs = natR (bareS xs)
  | [] => rfl
  | x :: r => by
    unfold natS shortS bareS
    by_cases h0 : x = 0
    · subst h0
      rw [if_pos (by simp [idleS]), if_pos rfl]
      exact natS_eq r
    · rw [if_neg h0]
      show _ = if 128 ≤ x then 0 :: x :: r else x :: r
      by_cases h1 : 128 ≤ x
      · rw [if_neg (by simp [idleS]; omega), if_pos h1]
      · rw [if_pos (by simp [idleS]; omega), if_neg h1, shortS_same x r h0 (by omega)]

theorem bareS_mem : ∀ (xs : List Int) (x : Int), x ∈ bareS xs → x ∈ xs
  | [], _, h => h
  | x :: r, z, h => by
    unfold bareS at h
    split at h
    · exact List.mem_cons_of_mem _ (bareS_mem r z h)
    · exact h

theorem bareS_len : ∀ xs : List Int, (bareS xs).length ≤ xs.length
  | [] => Nat.le_refl _
  | x :: r => by
    unfold bareS
    split
    · have := bareS_len r
      simp only [List.length_cons]
      omega
    · exact Nat.le_refl _

theorem natS_byte (xs : List Int) (hb : ∀ x ∈ xs, 0 ≤ x ∧ x < 256) : ∀ x ∈ natS xs, 0 ≤ x ∧ x < 256 := by
  intro x hx
  have := shortS_mem _ _ hx
  simp at this
  rcases this with rfl | h
  · omega
  · exact hb x h

theorem natS_len (xs : List Int) : (natS xs).length ≤ xs.length + 1 := by
  have := shortS_len (0 :: xs)
  simp only [List.length_cons] at this
  exact this

theorem drop_at (xs : List Int) (k : Nat) (h : k < xs.length) : xs.drop k = xs.getD k 0 :: xs.drop (k + 1) := by
  rw [List.drop_eq_getElem_cons h]
  simp [List.getD, h]

theorem Src.at {w : World} {ao : Option Addr} {n cap : Nat} {xs : List Int} (h : Src w ao n cap xs) (k : Nat) (hk : k < n) : ∃ b off, ao = some ⟨b, off, none⟩ ∧ w.cell? ⟨b, off + k, none⟩ = some (.int .u8 (xs.getD k 0)) := by
  have hl := h.hlen
  obtain ⟨b, off, he, hc⟩ := h.hrd (by intro h'; subst h'; simp at hl; omega)
  exact ⟨b, off, he, hc k (by omega)⟩

end Go.Proofs.YtnabmdpgibnkaabDoor

namespace Go.Proofs.YtnabmdpgibnkaabDoor
open Go.RowKit Go.IntWalk

set_option maxRecDepth 100000 in
set_option maxHeartbeats 1000000 in
theorem nat_any (ao : Option Addr) (n cap : Nat) (xs : List Int) (w : World) (hs : Src w ao n cap xs) (hn : n ≤ 140737488351232) :
    Calls Tryd.prog 36 #[.slice ao n cap] w fun e w' => ∃ ao' c', e = .returned (.slice ao' (natS xs).length c') ∧ OwnO w' w.heap.size ao' (natS xs).length c' (natS xs) ∧ Below w.heap.size w w' := by
  have hby := hide hs.hbyt
  have HL := hide hs.hlen
  go_enter Tryd.func36, Tryd.ntmps36
  go_wp2_with (first | (at_builtin; refine wpList_appN _ rfl (.tmp 3) (.tmp 4) rfl w.heap.size (.slice (some ⟨w.heap.size, 0, none⟩) 1 1) [0] rfl (OwnB.lit _ [0] _ 1 rfl rfl (Nat.le_refl _) (by decide)) ao n cap xs rfl (hs.alloc _) (n + 1) (by simp [HL.out]) (.inl (by simp)) (by omega) (by simp) ?_; intro g1 c1 w1 ho1 hb1 hl1 hc1 hm1 hg1) | fail)
  refine (shortest_any w.heap.size _ _ _ (0 :: xs) w1 (by intro x hx; simp at hx; rcases hx with rfl | h; omega; exact hby.out x h) ho1.toO).mono ?_
  rintro e w2 ⟨ao', c', rfl, ho2, hd⟩
  go_wp2
  go_ret
  exact ⟨ao', c', rfl, ho2, hd.below (((Below.refl _ _).alloc (Nat.le_refl _) _).grown hg1 (by simp) (by intro k hk; cases hk; exact Nat.le_refl _))⟩

end Go.Proofs.YtnabmdpgibnkaabDoor

namespace Go.Proofs.YtnabmdpgibnkaabDoor

theorem digs_form (n : Nat) (h : 0 < n) (h' : n < 16777216) : ∃ d r, digs n = d :: r ∧ d ≠ 0 ∧ numOf (d :: r) = n ∧ (d :: r).length ≤ 3 := by
  unfold digs
  rw [if_neg (by omega)]
  by_cases h1 : n < 256
  · rw [if_pos h1]; exact ⟨_, _, rfl, by omega, by simp [numOf], by simp⟩
  · rw [if_neg h1]
    by_cases h2 : n < 65536
    · rw [if_pos h2]; exact ⟨_, _, rfl, by omega, by simp [numOf]; omega, by simp⟩
    · rw [if_neg h2]; exact ⟨_, _, rfl, by omega, by simp [numOf]; omega, by simp⟩

theorem takeLen_put (n : Nat) (h : n < 16777216) (ys : List Int) : takeLenS (lenB n ++ ys) = ((n : Int), ((lenB n).length : Int), 0) := by
  unfold lenB
  by_cases h1 : n < 128
  · rw [if_pos h1]
    unfold takeLenS
    simp
    omega
  · rw [if_neg h1]
    obtain ⟨d, r, e, hd, hn, hl⟩ := digs_form n (by omega) h
    rw [e]
    generalize hk : (d :: r).length = k at *
    have hk1 : 1 ≤ k := by simp at hk; omega
    unfold takeLenS
    have g0 : ((128 + (k : Int)) :: (d :: r) ++ ys).getD 0 0 = 128 + (k : Int) := by simp
    have g1 : ((128 + (k : Int)) :: (d :: r) ++ ys).getD 1 0 = d := by simp
    have gl : (((128 + (k : Int)) :: (d :: r) ++ ys).length : Int) = 1 + (k : Int) + (ys.length : Int) := by
      have : ((128 + (k : Int)) :: (d :: r) ++ ys).length = 1 + (d :: r).length + ys.length := by simp; omega
      rw [this, hk]; omega
    have gd : (((128 + (k : Int)) :: (d :: r) ++ ys).drop 1).take k = d :: r := by
      have : ((128 + (k : Int)) :: (d :: r) ++ ys).drop 1 = (d :: r) ++ ys := by simp
      rw [this, List.take_append_of_le_length (by omega), List.take_of_length_le (by omega)]
    rw [g0, g1, if_neg (by omega), if_neg (by omega), if_neg (by omega), gl, if_neg (by omega)]
    rw [show ((128 : Int) + (k : Int) - 128).toNat = k by omega, gd, hn, if_neg (by omega)]
    simp at hk
    simp
    omega

/-- The element's bytes, and whatever behind them: its tag and its content's places. -/
theorem find_put (t : Int) (ht : isTagB t = true) (xs rest : List Int) (h : xs.length < 16777216) :
    findS ([t] ++ lenB xs.length ++ xs ++ rest) = (t, 1 + ((lenB xs.length).length : Int), 1 + ((lenB xs.length).length : Int) + (xs.length : Int), 0) := by
  have hT := takeLen_put xs.length h (xs ++ rest)
  have hpos : 1 ≤ (lenB xs.length).length := by unfold lenB; split <;> simp
  have e : [t] ++ lenB xs.length ++ xs ++ rest = t :: (lenB xs.length ++ (xs ++ rest)) := by simp
  rw [e]
  generalize lenB xs.length = lb at *
  unfold findS
  have gl : (t :: (lb ++ (xs ++ rest))).length = 1 + lb.length + xs.length + rest.length := by simp; omega
  rw [gl]
  have g0 : (t :: (lb ++ (xs ++ rest))).getD 0 0 = t := by simp
  have gd : (t :: (lb ++ (xs ++ rest))).drop 1 = lb ++ (xs ++ rest) := by simp
  rw [g0, gd, hT, if_neg (by omega), if_neg (by rw [ht]; simp), if_neg (by omega)]
  simp only []
  rw [if_neg (by simp), if_neg (by omega)]

theorem cut_put (t : Int) (lb xs rest : List Int) : (([t] ++ lb ++ xs ++ rest).take (1 + lb.length + xs.length)).drop (1 + lb.length) = xs := by
  have e : [t] ++ lb ++ xs ++ rest = ([t] ++ lb) ++ (xs ++ rest) := by simp
  have hl : ([t] ++ lb).length = 1 + lb.length := by simp; omega
  rw [e, ← hl, List.take_append, List.take_of_length_le (by omega), List.drop_append]
  simp

/-- No element's bytes begin with those of another one. -/
theorem begins (t u : Int) (ht : isTagB t = true) (hu : isTagB u = true) (xs ys : List Int) (hx : xs.length < 16777216) (hy : ys.length < 16777216) (m : Nat)
    (hm : m = min ([t] ++ lenB xs.length ++ xs).length ([u] ++ lenB ys.length ++ ys).length)
    (he : ([t] ++ lenB xs.length ++ xs).take m = ([u] ++ lenB ys.length ++ ys).take m) : t = u ∧ xs = ys := by
  have key : ∀ (t u : Int) (xs ys : List Int), isTagB t = true → isTagB u = true → xs.length < 16777216 → ys.length < 16777216 →
      ([t] ++ lenB xs.length ++ xs).length ≤ ([u] ++ lenB ys.length ++ ys).length → [t] ++ lenB xs.length ++ xs = ([u] ++ lenB ys.length ++ ys).take ([t] ++ lenB xs.length ++ xs).length → t = u ∧ xs = ys := by
    intro t u xs ys ht hu hx hy hle he
    obtain ⟨rest, hr⟩ : ∃ rest, [u] ++ lenB ys.length ++ ys = [t] ++ lenB xs.length ++ xs ++ rest := by
      generalize [t] ++ lenB xs.length ++ xs = A at he
      generalize [u] ++ lenB ys.length ++ ys = B at he
      exact ⟨B.drop A.length, by have h := List.take_append_drop A.length B; rw [← he] at h; exact h.symm⟩
    have f1 := find_put t ht xs rest hx
    have f2 := find_put u hu ys [] hy
    rw [List.append_nil] at f2
    rw [← hr, f2] at f1
    simp only [Prod.mk.injEq] at f1
    obtain ⟨e1, e2, e3, _⟩ := f1
    refine ⟨e1.symm, ?_⟩
    have c1 := cut_put t (lenB xs.length) xs rest
    have c2 := cut_put u (lenB ys.length) ys []
    rw [List.append_nil] at c2
    rw [← hr] at c1
    have k1 : (lenB ys.length).length = (lenB xs.length).length := by omega
    have k2 : ys.length = xs.length := by omega
    have c3 := c1.symm
    rw [← k1, ← k2] at c3
    exact c3.trans c2
  rcases Nat.le_total ([t] ++ lenB xs.length ++ xs).length ([u] ++ lenB ys.length ++ ys).length with h | h
  · have e : m = ([t] ++ lenB xs.length ++ xs).length := by omega
    rw [e, List.take_of_length_le (Nat.le_refl _)] at he
    exact key t u xs ys ht hu hx hy h he
  · have e : m = ([u] ++ lenB ys.length ++ ys).length := by omega
    rw [e, List.take_of_length_le (Nat.le_refl ([u] ++ lenB ys.length ++ ys).length)] at he
    obtain ⟨a, b⟩ := key u t ys xs hu ht hy hx h he.symm
    exact ⟨a.symm, b.symm⟩

end Go.Proofs.YtnabmdpgibnkaabDoor
