/-
  name.decoded: the attribute whose bytes an element has.
  What is put is found again: the plain functions undo one another. No Go, no program.
  A name's bytes are read as that name: the maths. No program.
-/
import Derived.Deep.RegionHeld3
import Derived.Laws.ResultCell
import Derived.Test.YtklchpdpooikdaaGreatDoorXNmEncNToTxR1
import Derived.Test.YtklchpdpooikdaaGreatDoorXOneToRTag
import Derived.Test.YtklchpdpooikdaaGreatDoorXODec
import Derived.Test.YtklchpdpooikdaaGreatDoorXCloneToFindIt
import Derived.Test.YtklchpdpooikdaaGreatDoorXROneToRRow
namespace Go.Proofs.YtklchpdpooikdaaGreatDoor
open Go.RowKit Go.IntWalk Go.Shelf

theorem Src.tailN {w : World} {ao : Option Addr} {n c : Nat} {xs : List Int} (hs : Src w ao n c xs) (h : Nat) (hh : h ≤ n) : Src w (cutA ao c h) (n - h) (c - h) (xs.drop h) := by
  have h1 := hs.cut h n hh (Nat.le_refl _)
  rwa [List.take_of_length_le (by rw [hs.hlen]; exact Nat.le_refl _)] at h1
theorem find_size (xs : List Int) (hb : ∀ x ∈ xs, 0 ≤ x ∧ x < 256) : ∃ h : Nat, (findS xs).2.2.1 = (h : Int) ∧ h ≤ xs.length := by
  rcases findS_cases xs hb with ⟨err, _, _, _, he⟩ | ⟨l, h, he, _, _, _, h4, _⟩
  · exact ⟨0, by rw [he]; rfl, Nat.zero_le _⟩
  · exact ⟨h, by rw [he], h4⟩

/-- What is read of an element's content. -/
def dcP (X : List Int) : List Int := (oneS X).2.1
def dcV (X : List Int) : List Int := (oneS ((dcP X).drop (findS (dcP X)).2.2.1.toNat)).2.1
def dcI (X : List Int) : List Int := (decS (contS (dcP X))).1
def dcA (X : List Int) : Int × ByteArray := if (dcI X).length = 4 then ((dcI X).getD 3 0, strOfNums (dcV X)) else (0, ByteArray.empty)
theorem one_byte (X : List Int) (h : Byt X) : Byt (oneS X).2.1 := by
  unfold oneS
  split
  · intro x hx; cases hx
  · split
    · intro x hx; cases hx
    · intro x hx
      exact h x (List.mem_of_mem_take (List.mem_of_mem_drop hx))
theorem one_len (X : List Int) : (oneS X).2.1.length ≤ X.length := by
  unfold oneS
  split
  · simp
  · split
    · simp
    · unfold contS
      rw [List.length_drop, List.length_take]
      omega
theorem cont_byteN (X : List Int) (h : Byt X) : Byt (contS X) := fun x hx => h x (List.mem_of_mem_take (List.mem_of_mem_drop hx))

theorem after2 {W : World} {g : Nat} {u0 u1 : Value} (hg : W.heap[g]? = some (.cells #[u0, u1] 111)) (x y : Value) :
    ((W.setCell ⟨g, 0, none⟩ x).setCell ⟨g, 1, none⟩ y).heap[g]? = some (.cells #[x, y] 111) := by
  have h1 := heap_setCell_same W g 0 _ _ x hg
  have h2 := heap_setCell_same _ g 1 _ _ y h1
  rw [h2]
  rfl
theorem two_cells {W : World} {g : Nat} {x y : Value} (h : W.heap[g]? = some (.cells #[x, y] 111)) : W.cell? ⟨g, 0, none⟩ = some x ∧ W.cell? ⟨g, 1, none⟩ = some y := by
  refine ⟨?_, ?_⟩ <;> simp [World.cell?, h]
set_option maxRecDepth 100000 in
set_option maxHeartbeats 2000000 in
theorem decoded_any (tag : Int) (ao : Option Addr) (n cap : Nat) (xs : List Int) (w : World) (hs : Src w ao n cap xs) (hN : n ≤ 1048576) :
    Calls Tryz.prog 120 #[.agg #[.int .i64 tag, .slice ao n cap]] w fun e w' => e = .returned (.agg #[.int .i64 (dcA xs).1, .string (dcA xs).2]) ∧ Below w.heap.size w w' := by
  have BX : Below w.heap.size w ((w.alloc (.cells #[.int .i64 tag, .slice ao n cap] 130)).alloc (.cells #[.int .i64 0, .string ⟨#[]⟩] 111)) := (nbelow w _).trans ((nbelow _ _).mono (by simp))
  have hz : (w.alloc (.cells #[.int .i64 tag, .slice ao n cap] 130)).heap.size = w.heap.size + 1 := by simp
  have hr : ((w.alloc (.cells #[.int .i64 tag, .slice ao n cap] 130)).alloc (.cells #[.int .i64 0, .string ⟨#[]⟩] 111)).heap[w.heap.size + 1]? = some (.cells #[.int .i64 0, .string ⟨#[]⟩] 111) := by rw [← hz]; exact heap_alloc_new _ _
  have hxb : Byt xs := hs.hbyt
  have hxl := hs.hlen
  have hPl : (oneS xs).2.1.length ≤ xs.length := one_len xs
  have h1 := hide (one_any ao n cap xs _ (hs.below BX) (by omega))
  have HBX := hide BX
  have HR := hide hr
  clear hs BX hr hz
  go_enter Tryz.func120, Tryz.ntmps120
  go_wp2_with fail
  refine h1.out.mono ?_
  rintro e w1 ⟨a1, m1, c1, rfl, o1, B1⟩
  have S1 := o1.toSrc (one_byte xs hxb)
  have HB1 := hide (HBX.out.trans (B1.mono HBX.out.size))
  have HR1 := hide ((B1.block _ (Array.getElem?_eq_some_iff.1 HR.out).1).trans HR.out)
  clear o1 B1 HBX HR h1
  have hDA : Hid (dcA xs = if (decS (contS (oneS xs).2.1)).1.length = 4 then ((decS (contS (oneS xs).2.1)).1.getD 3 0, strOfNums (oneS ((oneS xs).2.1.drop (findS (oneS xs).2.1).2.2.1.toNat)).2.1) else (0, ByteArray.empty)) := rfl
  generalize (oneS xs).2.1 = P at S1 hDA hPl
  generalize (oneS xs).1 = T1
  generalize (oneS xs).2.2 = E1
  obtain ⟨h, hh, hle⟩ := find_size P S1.hbyt
  have hPb : Byt P := S1.hbyt
  have hPm := S1.hlen
  have b1 := nbelow w1 (.cells #[.int .i64 T1, .slice a1 m1 c1] 130)
  have e1 : (w1.alloc (.cells #[.int .i64 T1, .slice a1 m1 c1] 130)).cell? ⟨w1.heap.size, 1, none⟩ = some (.slice a1 m1 c1) := by simp
  have S1b := S1.below b1
  have h20 := take_any a1 m1 c1 P _ S1b (by omega)
  rw [hh] at h20
  rw [hh, Int.toNat_natCast] at hDA
  have h2 := hide h20
  replace HB1 := hide (HB1.out.trans (b1.mono HB1.out.size))
  replace HR1 := hide ((b1.block _ (Array.getElem?_eq_some_iff.1 HR1.out).1).trans HR1.out)
  clear h20 S1 b1
  go_wp2_with fail
  refine h2.out.mono ?_
  rintro e w2 ⟨a2, m2, c2, rfl, o2, B2⟩
  have S2 := o2.toSrc (cont_byteN P hPb)
  have hm2 := S2.hlen
  have hCl : (contS P).length ≤ P.length := by unfold contS; rw [List.length_drop, List.length_take]; omega
  replace e1 := (B2.cell (p := ⟨w1.heap.size, 1, none⟩) (lt_of_cell e1)).trans e1
  replace S1b := S1b.below B2
  replace HB1 := hide (HB1.out.trans (B2.mono HB1.out.size))
  replace HR1 := hide ((B2.block _ (Array.getElem?_eq_some_iff.1 HR1.out).1).trans HR1.out)
  generalize (findS P).1 = T2
  generalize (findS P).2.2.2 = E2
  have b2 := nbelow w2 (.cells #[.int .i64 T2, .slice a2 m2 c2] 130)
  have e2 : (w2.alloc (.cells #[.int .i64 T2, .slice a2 m2 c2] 130)).cell? ⟨w2.heap.size, 1, none⟩ = some (.slice a2 m2 c2) := by simp
  have e1b : (w2.alloc (.cells #[.int .i64 T2, .slice a2 m2 c2] 130)).cell? ⟨w1.heap.size, 1, none⟩ = some (.slice a1 m1 c1) := (b2.cell (p := ⟨w1.heap.size, 1, none⟩) (lt_of_cell e1)).trans e1
  have sl := fun X => slice_lo X a1 m1 c1 (h : Int) h rfl (by omega)
  have S1t := (S1b.below b2).tailN h (by omega)
  have S2b := S2.below b2
  have h3 := hide (one_any _ _ _ _ _ S1t (by omega))
  replace HB1 := hide (HB1.out.trans (b2.mono HB1.out.size))
  replace HR1 := hide ((b2.block _ (Array.getElem?_eq_some_iff.1 HR1.out).1).trans HR1.out)
  have hVb : Byt (oneS (P.drop h)).2.1 := one_byte _ (fun x hx => hPb x (List.mem_of_mem_drop hx))
  clear S1t S1b S2 o2 B2 b2 h2 e1
  go_wp2_with fail
  refine h3.out.mono ?_
  rintro e w3 ⟨a3, m3, c3, rfl, o3, B3⟩
  have S3 := o3.toSrc hVb
  generalize (oneS (P.drop h)).2.1 = V at S3 hDA
  generalize (oneS (P.drop h)).1 = T3
  generalize (oneS (P.drop h)).2.2 = E3
  replace e2 := (B3.cell (p := ⟨w2.heap.size, 1, none⟩) (lt_of_cell e2)).trans e2
  have b3 := nbelow w3 (.cells #[.int .i64 T3, .slice a3 m3 c3] 130)
  have e3 : (w3.alloc (.cells #[.int .i64 T3, .slice a3 m3 c3] 130)).cell? ⟨w3.heap.size, 1, none⟩ = some (.slice a3 m3 c3) := by simp
  have e2b : (w3.alloc (.cells #[.int .i64 T3, .slice a3 m3 c3] 130)).cell? ⟨w2.heap.size, 1, none⟩ = some (.slice a2 m2 c2) := (b3.cell (p := ⟨w2.heap.size, 1, none⟩) (lt_of_cell e2)).trans e2
  have S2c := (S2b.below B3).below b3
  replace S3 := S3.below b3
  have h4 := hide (callsIn_wide.1 (decode_in a2 m2 c2 (contS P) _ S2c (by omega)))
  replace HB1 := hide ((HB1.out.trans (B3.mono HB1.out.size)).trans (b3.mono (Nat.le_trans HB1.out.size B3.size)))
  replace HR1 := hide ((B3.block _ (Array.getElem?_eq_some_iff.1 HR1.out).1).trans HR1.out)
  replace HR1 := hide ((b3.block _ (Array.getElem?_eq_some_iff.1 HR1.out).1).trans HR1.out)
  clear S2b S2c o3 B3 b3 h3 e2 e1b sl
  go_wp2_with fail
  refine h4.out.mono ?_
  rintro e w4 ⟨a4, L4, c4, rfl, o4, B4⟩
  replace S3 := S3.below B4
  replace e3 := (B4.cell (p := ⟨w3.heap.size, 1, none⟩) (lt_of_cell e3)).trans e3
  have HB2 := hide (HB1.out.trans (B4.mono HB1.out.size))
  have hr4 := (B4.block _ (Array.getElem?_eq_some_iff.1 HR1.out).1).trans HR1.out
  have z0 : w4.cell? ⟨w.heap.size + 1, 0, none⟩ = some (.int .i64 0) := by simp [World.cell?, hr4]
  have z1 : w4.cell? ⟨w.heap.size + 1, 1, none⟩ = some (.string ⟨#[]⟩) := by simp [World.cell?, hr4]
  have f0 : w4.frozen? ⟨w.heap.size + 1, 0, none⟩ = false := by simp [World.frozen?, hr4]
  have f1 : w4.frozen? ⟨w.heap.size + 1, 1, none⟩ = false := by simp [World.frozen?, hr4]
  have hr5 := hide hr4
  generalize (decS (contS P)).1 = A at o4 hDA
  generalize (decS (contS P)).2 = E4
  clear B4 HB1 HR1 h4 e2b hr4
  have hLA : L4 = A.length := by
    rcases o4.2 with ⟨h5, h6⟩ | ⟨g, cap, cur, h5, _⟩
    · cases h5; rw [h6]
    · exact (Value.slice.inj h5).2.1
  by_cases hA : A.length = 4
  · have hD : Hid (dcA xs = (A.getD 3 0, strOfNums V)) := by unfold Hid; rw [hDA.out, if_pos hA]
    obtain ⟨g, rfl⟩ : ∃ g, a4 = some ⟨g, 0, none⟩ := by
      rcases o4.2 with ⟨h5, h6⟩ | ⟨g, cap, cur, h5, _⟩
      · omega
      · exact ⟨g, (Value.slice.inj h5).1⟩
    have cq : w4.cell? ⟨g, 3, none⟩ = some (.int .i64 (A.getD 3 0)) := by
      have h7 := o4.cells (g := g) rfl 3 (.int .i64 (A.getD 3 0)) (by rw [List.getElem?_map, List.getElem?_eq_getElem (by omega)]; simp [List.getD, List.getElem?_eq_getElem (show 3 < A.length by omega)])
      rwa [add_none, Nat.zero_add] at h7
    obtain rfl : L4 = 4 := by omega
    have tq : (convert 64 9 (.slice a3 m3 c3)).run Tryz.prog w4.drew = .ok (.string (strOfNums V)) w4.drew := (S3.heap (w' := w4.drew) rfl).text
    clear o4 hLA hA S3
    generalize A.getD 3 0 = q at cq hD
    go_wp2_with fail
    go_region
    all_goals
      go_wp2
      have hz3 := two_cells (after2 (W := w4) hr5.out (.int .i64 q) (.string (strOfNums V)))
      refine bodyPost_ret (v := .agg #[.int .i64 q, .string (strOfNums V)]) (by simp [results, Tryz.results120, go_sem, hz3.1, hz3.2]) rfl ⟨by rw [hD.out], ?_⟩
      first | exact ((HB2.out.setCell (Nat.le_succ _) _).setCell (Nat.le_succ _) _).drew | exact ((HB2.out.drew).setCell (Nat.le_succ _) _).setCell (Nat.le_succ _) _
  · have hD : Hid (dcA xs = (0, ByteArray.empty)) := by unfold Hid; rw [hDA.out, if_neg hA]
    have hn : ¬ (L4 : Int) = 4 := by omega
    clear o4 S3 e3
    go_wp2
    have hz3 := two_cells (after2 (W := w4) hr5.out (.int .i64 0) (.string ⟨#[]⟩))
    refine bodyPost_ret (v := .agg #[.int .i64 0, .string ⟨#[]⟩]) (by simp [results, Tryz.results120, go_sem, hz3.1, hz3.2]) rfl ⟨by rw [hD.out]; rfl, ?_⟩
    exact (HB2.out.setCell (Nat.le_succ _) _).setCell (Nat.le_succ _) _

end Go.Proofs.YtklchpdpooikdaaGreatDoor

namespace Go.Proofs.YtklchpdpooikdaaGreatDoor

theorem digs_form (n : Nat) (h : 0 < n) (h' : n < 16777216) : ∃ d r, digs n = d :: r ∧ d ≠ 0 ∧ numOf (d :: r) = n ∧ (d :: r).length ≤ 3 := by
  unfold digs
  rw [if_neg (by omega)]
  by_cases h1 : n < 256
  · rw [if_pos h1]; exact ⟨_, _, rfl, by omega, by simp [numOf], by simp⟩
  · rw [if_neg h1]
    by_cases h2 : n < 65536
    · rw [if_pos h2]; exact ⟨_, _, rfl, by omega, by simp [numOf]; omega, by simp⟩
    · rw [if_neg h2]; exact ⟨_, _, rfl, by omega, by simp [numOf]; omega, by simp⟩

theorem takeLen_put (n : Nat) (h : n < 16777216) (ys : List Int) : takeLenS (lenB n ++ ys) = ((n : Int), ((lenB n).length : Int), 0) := by
  unfold lenB
  by_cases h1 : n < 128
  · rw [if_pos h1]
    unfold takeLenS
    simp
    omega
  · rw [if_neg h1]
    obtain ⟨d, r, e, hd, hn, hl⟩ := digs_form n (by omega) h
    rw [e]
    generalize hk : (d :: r).length = k at *
    have hk1 : 1 ≤ k := by simp at hk; omega
    unfold takeLenS
    have g0 : ((128 + (k : Int)) :: (d :: r) ++ ys).getD 0 0 = 128 + (k : Int) := by simp
    have g1 : ((128 + (k : Int)) :: (d :: r) ++ ys).getD 1 0 = d := by simp
    have gl : (((128 + (k : Int)) :: (d :: r) ++ ys).length : Int) = 1 + (k : Int) + (ys.length : Int) := by
      have : ((128 + (k : Int)) :: (d :: r) ++ ys).length = 1 + (d :: r).length + ys.length := by simp; omega
      rw [this, hk]; omega
    have gd : (((128 + (k : Int)) :: (d :: r) ++ ys).drop 1).take k = d :: r := by
      have : ((128 + (k : Int)) :: (d :: r) ++ ys).drop 1 = (d :: r) ++ ys := by simp
      rw [this, List.take_append_of_le_length (by omega), List.take_of_length_le (by omega)]
    rw [g0, g1, if_neg (by omega), if_neg (by omega), if_neg (by omega), gl, if_neg (by omega)]
    rw [show ((128 : Int) + (k : Int) - 128).toNat = k by omega, gd, hn, if_neg (by omega)]
    simp at hk
    simp
    omega

/-- The element's bytes, and whatever behind them: its tag and its content's places. -/
theorem find_put (t : Int) (ht : isTagB t = true) (xs rest : List Int) (h : xs.length < 16777216) :
    findS ([t] ++ lenB xs.length ++ xs ++ rest) = (t, 1 + ((lenB xs.length).length : Int), 1 + ((lenB xs.length).length : Int) + (xs.length : Int), 0) := by
  have hT := takeLen_put xs.length h (xs ++ rest)
  have hpos : 1 ≤ (lenB xs.length).length := by unfold lenB; split <;> simp
  have e : [t] ++ lenB xs.length ++ xs ++ rest = t :: (lenB xs.length ++ (xs ++ rest)) := by simp
  rw [e]
  generalize lenB xs.length = lb at *
  unfold findS
  have gl : (t :: (lb ++ (xs ++ rest))).length = 1 + lb.length + xs.length + rest.length := by simp; omega
  rw [gl]
  have g0 : (t :: (lb ++ (xs ++ rest))).getD 0 0 = t := by simp
  have gd : (t :: (lb ++ (xs ++ rest))).drop 1 = lb ++ (xs ++ rest) := by simp
  rw [g0, gd, hT, if_neg (by omega), if_neg (by rw [ht]; simp), if_neg (by omega)]
  simp only []
  rw [if_neg (by simp), if_neg (by omega)]

theorem cut_put (t : Int) (lb xs rest : List Int) : (([t] ++ lb ++ xs ++ rest).take (1 + lb.length + xs.length)).drop (1 + lb.length) = xs := by
  have e : [t] ++ lb ++ xs ++ rest = ([t] ++ lb) ++ (xs ++ rest) := by simp
  have hl : ([t] ++ lb).length = 1 + lb.length := by simp; omega
  rw [e, ← hl, List.take_append, List.take_of_length_le (by omega), List.drop_append]
  simp

/-- No element's bytes begin with those of another one. -/
theorem begins (t u : Int) (ht : isTagB t = true) (hu : isTagB u = true) (xs ys : List Int) (hx : xs.length < 16777216) (hy : ys.length < 16777216) (m : Nat)
    (hm : m = min ([t] ++ lenB xs.length ++ xs).length ([u] ++ lenB ys.length ++ ys).length)
    (he : ([t] ++ lenB xs.length ++ xs).take m = ([u] ++ lenB ys.length ++ ys).take m) : t = u ∧ xs = ys := by
  have key : ∀ (t u : Int) (xs ys : List Int), isTagB t = true → isTagB u = true → xs.length < 16777216 → ys.length < 16777216 →
      ([t] ++ lenB xs.length ++ xs).length ≤ ([u] ++ lenB ys.length ++ ys).length → [t] ++ lenB xs.length ++ xs = ([u] ++ lenB ys.length ++ ys).take ([t] ++ lenB xs.length ++ xs).length → t = u ∧ xs = ys := by
    intro t u xs ys ht hu hx hy hle he
    obtain ⟨rest, hr⟩ : ∃ rest, [u] ++ lenB ys.length ++ ys = [t] ++ lenB xs.length ++ xs ++ rest := by
      generalize [t] ++ lenB xs.length ++ xs = A at he
      generalize [u] ++ lenB ys.length ++ ys = B at he
      exact ⟨B.drop A.length, by have h := List.take_append_drop A.length B; rw [← he] at h; exact h.symm⟩
    have f1 := find_put t ht xs rest hx
    have f2 := find_put u hu ys [] hy
    rw [List.append_nil] at f2
    rw [← hr, f2] at f1
    simp only [Prod.mk.injEq] at f1
    obtain ⟨e1, e2, e3, _⟩ := f1
    refine ⟨e1.symm, ?_⟩
    have c1 := cut_put t (lenB xs.length) xs rest
    have c2 := cut_put u (lenB ys.length) ys []
    rw [List.append_nil] at c2
    rw [← hr] at c1
    have k1 : (lenB ys.length).length = (lenB xs.length).length := by omega
    have k2 : ys.length = xs.length := by omega
    have c3 := c1.symm
    rw [← k1, ← k2] at c3
    exact c3.trans c2
  rcases Nat.le_total ([t] ++ lenB xs.length ++ xs).length ([u] ++ lenB ys.length ++ ys).length with h | h
  · have e : m = ([t] ++ lenB xs.length ++ xs).length := by omega
    rw [e, List.take_of_length_le (Nat.le_refl _)] at he
    exact key t u xs ys ht hu hx hy h he
  · have e : m = ([u] ++ lenB ys.length ++ ys).length := by omega
    rw [e, List.take_of_length_le (Nat.le_refl ([u] ++ lenB ys.length ++ ys).length)] at he
    obtain ⟨a, b⟩ := key u t ys xs hu ht hy hx h he.symm
    exact ⟨a.symm, b.symm⟩

end Go.Proofs.YtklchpdpooikdaaGreatDoor

namespace Go.Proofs.YtklchpdpooikdaaGreatDoor
open Go.RowKit Go.IntWalk

/-- An element's bytes. -/
def putE (t : Int) (xs : List Int) : List Int := [t] ++ lenB xs.length ++ xs
theorem putB_eq (t : Int) (ls : List (List Int)) (ht : isTagB t = true) (hl : ls.flatten.length ≤ 16777215) : putB t ls = putE t ls.flatten := by
  unfold putB putS putE
  rw [if_neg (by simp [ht]), if_neg (by omega)]
  simp
theorem putE_len (t : Int) (xs : List Int) : (putE t xs).length ≤ xs.length + 5 := by
  have := lenB_len4 xs.length
  unfold putE
  simp only [List.length_append, List.length_cons, List.length_nil]
  omega
theorem find_putE (t : Int) (ht : isTagB t = true) (xs rest : List Int) (h : xs.length < 16777216) :
    (findS (putE t xs ++ rest)).1 = t ∧ (findS (putE t xs ++ rest)).2.2.1 = ((putE t xs).length : Int) ∧ (findS (putE t xs ++ rest)).2.2.2 = 0 ∧ contS (putE t xs ++ rest) = xs := by
  have hf := find_put t ht xs rest h
  have he : putE t xs ++ rest = [t] ++ lenB xs.length ++ xs ++ rest := rfl
  rw [he, hf]
  refine ⟨rfl, ?_, rfl, ?_⟩
  · unfold putE
    simp only [List.length_append, List.length_cons, List.length_nil]
    omega
  · unfold contS
    rw [hf]
    simp only []
    have h1 : (1 + ((lenB xs.length).length : Int) + (xs.length : Int)).toNat = 1 + (lenB xs.length).length + xs.length := by omega
    have h2 : (1 + ((lenB xs.length).length : Int)).toNat = 1 + (lenB xs.length).length := by omega
    rw [h1, h2, cut_put]
theorem one_putE (t : Int) (ht : isTagB t = true) (xs : List Int) (h : xs.length < 16777216) : oneS (putE t xs) = (t, xs, 0) := by
  obtain ⟨h1, h2, h3, h4⟩ := find_putE t ht xs [] h
  rw [List.append_nil] at h1 h2 h3 h4
  unfold oneS
  rw [if_neg (by rw [h3]; simp), if_neg (by rw [h2]; omega), h1, h4]

/-- Elements, one behind the other. -/
def catE (es : List (Int × List Int)) : List Int := (es.map (fun e => putE e.1 e.2)).flatten
theorem catE_cons (e : Int × List Int) (es : List (Int × List Int)) : catE (e :: es) = putE e.1 e.2 ++ catE es := rfl
theorem placesE_of_cat : ∀ (es : List (Int × List Int)) (pre : List Int) (f : Nat), (∀ e ∈ es, isTagB e.1 = true ∧ e.2.length < 16777216) → (catE es).length ≤ f →
    (placesF (pre ++ catE es) f pre.length).map (elS (pre ++ catE es)) = es ∧ ∀ q, (placesF (pre ++ catE es) f pre.length).getLast? = some q → q + (findS ((pre ++ catE es).drop q)).2.2.1.toNat = (pre ++ catE es).length := by
  intro es
  induction es with
  | nil =>
    intro pre f _ _
    have e : placesF (pre ++ catE []) f pre.length = [] := by
      cases f with
      | zero => rfl
      | succ f => rw [placesF, if_neg]; simp [catE]
    rw [e]
    exact ⟨rfl, fun q hq => by simp at hq⟩
  | cons e es ih =>
    intro pre f hok hf
    obtain ⟨ht, hl⟩ := hok e (by simp)
    have hd : (pre ++ (putE e.1 e.2 ++ catE es)).drop pre.length = putE e.1 e.2 ++ catE es := by
      rw [List.drop_append_of_le_length (Nat.le_refl _), List.drop_eq_nil_of_le (Nat.le_refl _), List.nil_append]
    obtain ⟨g1, g2, g3, g4⟩ := find_putE e.1 ht e.2 (catE es) hl
    have hpos : 0 < (putE e.1 e.2).length := by unfold putE; simp
    rw [catE_cons] at hf ⊢
    rw [List.length_append] at hf
    obtain ⟨f', rfl⟩ : ∃ f', f = f' + 1 := ⟨f - 1, by omega⟩
    have hlen : pre.length < (pre ++ (putE e.1 e.2 ++ catE es)).length := by simp; omega
    have hstep : placesF (pre ++ (putE e.1 e.2 ++ catE es)) (f' + 1) pre.length = pre.length :: placesF (pre ++ (putE e.1 e.2 ++ catE es)) f' (pre.length + (putE e.1 e.2).length) := by
      rw [placesF, hd, g3, g2, if_pos ⟨hlen, rfl, by omega⟩]
      simp
    have hih := ih (pre ++ putE e.1 e.2) f' (fun x hx => hok x (by simp [hx])) (by omega)
    rw [List.append_assoc, List.length_append] at hih
    have hel : elS (pre ++ (putE e.1 e.2 ++ catE es)) pre.length = e := by
      unfold elS
      rw [hd, g1, g4]
    rw [hstep, List.map_cons, hel, hih.1]
    refine ⟨rfl, fun q hq => ?_⟩
    cases hr : placesF (pre ++ (putE e.1 e.2 ++ catE es)) f' (pre.length + (putE e.1 e.2).length) with
    | nil =>
      rw [hr] at hq hih
      have hes : es = [] := by have := hih.1; simp at this; exact this
      simp at hq
      subst hq
      rw [hd, g2, hes]
      simp [catE]
    | cons a r =>
      rw [hr] at hq
      rw [List.getLast?_cons_cons] at hq
      exact hih.2 q (by rw [hr]; exact hq)
theorem placesE_all (es : List (Int × List Int)) (hok : ∀ e ∈ es, isTagB e.1 = true ∧ e.2.length < 16777216) :
    (placesS (catE es) 0).map (elS (catE es)) = es ∧ rowErr (catE es) = 0 := by
  have h := placesE_of_cat es [] (catE es).length hok (Nat.le_refl _)
  rw [List.nil_append] at h
  have h1 : placesS (catE es) 0 = placesF (catE es) (catE es).length ([] : List Int).length := rfl
  rw [← h1] at h
  refine ⟨h.1, ?_⟩
  unfold rowErr
  rw [if_neg]
  unfold endS
  cases hg : (placesS (catE es) 0).getLast? with
  | none =>
    have hn : placesS (catE es) 0 = [] := by simpa using hg
    have he : es = [] := by have := h.1; rw [hn] at this; simp at this; exact this
    subst he
    simp [catE]
  | some q =>
    have := h.2 q hg
    simp only
    omega

/-- The content of an attribute's element. -/
def bodyA (t : Int) (s : ByteArray) : List Int := putE 6 (idB t) ++ putE (kindL s.data.toList).1 (nums s.data.toList)
theorem attr_val {t : Int} {l : List UInt8} (h : attrL t l = true) : valL l = true ∧ (t = 3 ∨ t = 5 ∨ t = 6 ∨ t = 7 ∨ t = 8 ∨ t = 10 ∨ t = 11) := by
  unfold attrL at h
  split at h
  · rename_i h6
    simp only [Bool.and_eq_true] at h
    exact ⟨h.2.2, by omega⟩
  · split at h
    · rename_i h5
      simp only [Bool.and_eq_true] at h
      exact ⟨h.2, by omega⟩
    · simp only [Bool.and_eq_true] at h
      refine ⟨h.2, ?_⟩
      have := h.1
      unfold plainT at this
      simp at this
      omega
theorem val_kind {l : List UInt8} (h : valL l = true) : l.length ≤ 64 ∧ isTagB (kindL l).1 = true := by
  unfold valL at h
  simp only [Bool.and_eq_true, decide_eq_true_eq] at h
  refine ⟨by omega, ?_⟩
  unfold kindL
  split
  · decide
  · split
    · decide
    · rename_i h1
      exact absurd h.2.2 h1
theorem encA_eq (t : Int) (s : ByteArray) (h : attrL t s.data.toList = true) : encA t s = putE 49 (putE 48 (bodyA t s)) ∧ (bodyA t s).length ≤ 94 := by
  obtain ⟨hv, _⟩ := attr_val h
  obtain ⟨hl, hk⟩ := val_kind hv
  have i1 := idB_len t
  have n1 : (nums s.data.toList).length ≤ 64 := by rw [nums_len]; exact hl
  have p1 := putE_len 6 (idB t)
  have p2 := putE_len (kindL s.data.toList).1 (nums s.data.toList)
  have hb : (bodyA t s).length ≤ 94 := by unfold bodyA; rw [List.length_append]; omega
  refine ⟨?_, hb⟩
  have e1 : putB 6 [idB t] = putE 6 (idB t) := by rw [putB_eq _ _ (by decide) (by simp; omega)]; simp
  have e2 : putB (kindL s.data.toList).1 [nums s.data.toList] = putE (kindL s.data.toList).1 (nums s.data.toList) := by rw [putB_eq _ _ hk (by simp; omega)]; simp
  have e3 : [putE 6 (idB t), putE (kindL s.data.toList).1 (nums s.data.toList)].flatten = bodyA t s := by unfold bodyA; simp
  have e4 : putB 48 [putE 6 (idB t), putE (kindL s.data.toList).1 (nums s.data.toList)] = putE 48 (bodyA t s) := by rw [putB_eq _ _ (by decide) (by rw [e3]; omega), e3]
  have p3 := putE_len 48 (bodyA t s)
  unfold encA
  rw [e1, e2, e4, putB_eq _ _ (by decide) (by simp; omega)]
  simp
theorem dec_id (t : Int) (h : t = 3 ∨ t = 5 ∨ t = 6 ∨ t = 7 ∨ t = 8 ∨ t = 10 ∨ t = 11) : (decS (idB t)).1 = [2, 5, 4, t] ∧ (idB t).length = 3 ∧ (idB t).getD 2 0 = t := by
  rcases h with rfl | rfl | rfl | rfl | rfl | rfl | rfl <;> decide
theorem text_back (s : ByteArray) : strOfNums (nums s.data.toList) = s := by rw [nums_text]
theorem dcA_eq (t : Int) (s : ByteArray) (h : attrL t s.data.toList = true) : dcA (putE 48 (bodyA t s)) = (t, s) := by
  obtain ⟨hv, ht⟩ := attr_val h
  obtain ⟨hl, hk⟩ := val_kind hv
  obtain ⟨_, hb⟩ := encA_eq t s h
  obtain ⟨d1, d2, d3⟩ := dec_id t ht
  have n1 : (nums s.data.toList).length ≤ 64 := by rw [nums_len]; exact hl
  have hP : dcP (putE 48 (bodyA t s)) = bodyA t s := by unfold dcP; rw [one_putE 48 (by decide) _ (by omega)]
  obtain ⟨f1, f2, f3, f4⟩ := find_putE 6 (by decide) (idB t) (putE (kindL s.data.toList).1 (nums s.data.toList)) (by omega)
  have hI : dcI (putE 48 (bodyA t s)) = [2, 5, 4, t] := by unfold dcI; rw [hP]; unfold bodyA; rw [f4, d1]
  have hV : dcV (putE 48 (bodyA t s)) = nums s.data.toList := by
    unfold dcV
    rw [hP]
    unfold bodyA
    rw [f2, Int.toNat_natCast, List.drop_append_of_le_length (Nat.le_refl _), List.drop_eq_nil_of_le (Nat.le_refl _), List.nil_append, one_putE _ hk _ (by omega)]
  unfold dcA
  rw [hI, hV, if_pos (show [2, 5, 4, t].length = 4 from rfl), text_back]
  rfl

/-- The name that a name's bytes may be: what name.Decode reads. -/
def decN (xs : List Int) : List (Int × ByteArray) := ((placesS (oneS xs).2.1 0).map (fun p => dcA (contS ((oneS xs).2.1.drop p)))).take 17
/-- A name's bytes, as rows of elements. -/
def rowsN (n : List (Int × ByteArray)) : List (Int × List Int) := n.map (fun x => (49, putE 48 (bodyA x.1 x.2)))
theorem name_all {n : List (Int × ByteArray)} (h : nameL n = true) : n.length ≤ 16 ∧ ∀ x ∈ n, attrL x.1 x.2.data.toList = true := by
  unfold nameL at h
  simp only [Bool.and_eq_true, decide_eq_true_eq, List.all_eq_true] at h
  exact h
theorem encR_rows : ∀ (n : List (Int × ByteArray)), (∀ x ∈ n, attrL x.1 x.2.data.toList = true) → encR n = catE (rowsN n) ∧ (encR n).length ≤ n.length * 104
  | [], _ => ⟨rfl, Nat.le_refl _⟩
  | x :: r, h => by
    obtain ⟨h1, h2⟩ := encR_rows r (fun y hy => h y (by simp [hy]))
    obtain ⟨e1, e2⟩ := encA_eq x.1 x.2 (h x (by simp))
    have p1 := putE_len 48 (bodyA x.1 x.2)
    have p2 := putE_len 49 (putE 48 (bodyA x.1 x.2))
    have hc : encR (x :: r) = encA x.1 x.2 ++ encR r := rfl
    refine ⟨?_, ?_⟩
    · rw [hc, e1, h1]; rfl
    · rw [hc, e1, List.length_append, List.length_cons]; omega
theorem rows_ok {n : List (Int × ByteArray)} (h : ∀ x ∈ n, attrL x.1 x.2.data.toList = true) : ∀ e ∈ rowsN n, isTagB e.1 = true ∧ e.2.length < 16777216 := by
  intro e he
  obtain ⟨x, hx, rfl⟩ := List.mem_map.1 he
  obtain ⟨_, e2⟩ := encA_eq x.1 x.2 (h x hx)
  have p1 := putE_len 48 (bodyA x.1 x.2)
  exact ⟨(show isTagB 49 = true from by decide), by simp only; omega⟩
theorem enc_parts {n : List (Int × ByteArray)} (h : nameL n = true) : encNC n = putE 48 (catE (rowsN n)) ∧ (catE (rowsN n)).length < 16777216 := by
  obtain ⟨h1, h2⟩ := name_all h
  obtain ⟨e1, e2⟩ := encR_rows n h2
  have hl : (catE (rowsN n)).length < 16777216 := by rw [← e1]; omega
  refine ⟨?_, hl⟩
  unfold encNC
  rw [if_pos h, putB_eq _ _ (by decide) (by simp; omega), ← e1]
  simp
theorem map_back {α β : Type} (f : β → α) (g : α → β) : ∀ (n : List α), (∀ x ∈ n, f (g x) = x) → (n.map g).map f = n
  | [], _ => rfl
  | x :: r, h => by rw [List.map_cons, List.map_cons, h x (by simp), map_back f g r (fun y hy => h y (by simp [hy]))]
theorem decN_enc {n : List (Int × ByteArray)} (h : nameL n = true) : decN (encNC n) = n := by
  obtain ⟨h1, h2⟩ := name_all h
  obtain ⟨e1, e2⟩ := enc_parts h
  obtain ⟨p1, _⟩ := placesE_all (rowsN n) (rows_ok h2)
  unfold decN
  rw [e1, one_putE 48 (by decide) _ e2]
  simp only []
  have e3 : (placesS (catE (rowsN n)) 0).map (fun p => dcA (contS ((catE (rowsN n)).drop p))) = ((placesS (catE (rowsN n)) 0).map (elS (catE (rowsN n)))).map (fun e => dcA e.2) := by
    rw [List.map_map]; rfl
  rw [e3, p1]
  have e4 : (rowsN n).map (fun e => dcA e.2) = n := by
    unfold rowsN
    refine map_back _ _ n (fun x hx => ?_)
    have h9 := dcA_eq x.1 x.2 (h2 x hx)
    dsimp only
    generalize putE 48 (bodyA x.1 x.2) = Y at h9 ⊢
    rw [h9]
  rw [e4, List.take_of_length_le (by omega)]

/-- What the document reads in a content. -/
def insS (xs : List Int) (tag : Int) : Option (List (Int × List Int)) :=
  if (oneS xs).2.2 = 0 ∧ (oneS xs).1 = tag ∧ rowErr (oneS xs).2.1 = 0 then some ((placesS (oneS xs).2.1 0).map (elS (oneS xs).2.1)) else none
def gsE (X : List Int) : Option (Int × ByteArray) :=
  match insS X 48 with
  | some [a, b] => if a.2.length = 3 then some (a.2.getD 2 0, strOfNums b.2) else none
  | _ => none
def gsL : List (Int × List Int) → Option (List (Int × ByteArray))
  | [] => some []
  | e :: r => match gsE e.2 with
    | some a => (gsL r).map (fun l => a :: l)
    | none => none
def gsN (xs : List Int) : List (Int × ByteArray) := (gsL ((insS xs 48).getD [])).getD []
theorem ins_put (tag : Int) (ht : isTagB tag = true) (es : List (Int × List Int)) (hok : ∀ e ∈ es, isTagB e.1 = true ∧ e.2.length < 16777216) (hl : (catE es).length < 16777216) : insS (putE tag (catE es)) tag = some es := by
  obtain ⟨p1, p2⟩ := placesE_all es hok
  unfold insS
  rw [one_putE tag ht _ hl, if_pos ⟨rfl, rfl, p2⟩, p1]
theorem gsE_eq (t : Int) (s : ByteArray) (h : attrL t s.data.toList = true) : gsE (putE 48 (bodyA t s)) = some (t, s) := by
  obtain ⟨hv, ht⟩ := attr_val h
  obtain ⟨hl, hk⟩ := val_kind hv
  obtain ⟨_, hb⟩ := encA_eq t s h
  obtain ⟨d1, d2, d3⟩ := dec_id t ht
  have n1 : (nums s.data.toList).length ≤ 64 := by rw [nums_len]; exact hl
  have e : bodyA t s = catE [(6, idB t), ((kindL s.data.toList).1, nums s.data.toList)] := by unfold bodyA catE; simp
  unfold gsE
  rw [e, ins_put 48 (by decide) _ (by
    intro e he
    simp at he
    rcases he with rfl | rfl
    · exact ⟨(show isTagB 6 = true from by decide), by simp only; omega⟩
    · exact ⟨hk, by simp only; omega⟩) (by rw [← e]; omega)]
  simp only []
  rw [if_pos d2, d3, text_back]
theorem gsL_rows : ∀ (n : List (Int × ByteArray)), (∀ x ∈ n, attrL x.1 x.2.data.toList = true) → gsL (rowsN n) = some n
  | [], _ => rfl
  | x :: r, h => by
    have h1 := gsL_rows r (fun y hy => h y (by simp [hy]))
    have h2 := gsE_eq x.1 x.2 (h x (by simp))
    have e : rowsN (x :: r) = (49, putE 48 (bodyA x.1 x.2)) :: rowsN r := rfl
    rw [e]
    simp only [gsL, h1, h2, Option.map_some]
theorem gsN_enc {n : List (Int × ByteArray)} (h : nameL n = true) : gsN (encNC n) = n := by
  obtain ⟨h1, h2⟩ := name_all h
  obtain ⟨e1, e2⟩ := enc_parts h
  unfold gsN
  rw [e1, ins_put 48 (by decide) _ (rows_ok h2) e2]
  simp only [Option.getD_some]
  rw [gsL_rows n h2]
  rfl

/-- What bytes are read as, by the document; and the error. -/
def okN (xs : List Int) (n : List (Int × ByteArray)) : Bool := nameL n && decide (encNC n = xs)
theorem ok_both (xs : List Int) : okN xs (decN xs) = okN xs (gsN xs) ∧ (okN xs (decN xs) = true → decN xs = gsN xs) := by
  have key : ∀ n, okN xs n = true → decN xs = n ∧ gsN xs = n := by
    intro n hn
    unfold okN at hn
    simp only [Bool.and_eq_true, decide_eq_true_eq] at hn
    obtain ⟨hn, rfl⟩ := hn
    exact ⟨decN_enc hn, gsN_enc hn⟩
  refine ⟨?_, fun h => (key _ h).2.symm⟩
  cases h1 : okN xs (decN xs) with
  | true => rw [(key _ h1).2, h1]
  | false =>
    cases h2 : okN xs (gsN xs) with
    | false => rfl
    | true => rw [(key _ h2).1, h2] at h1; cases h1
def ansN (xs : List Int) : List (Int × ByteArray) := if (oneS xs).2.2 ≠ 0 then [] else if okN xs (decN xs) = true then decN xs else []
def ansE (xs : List Int) : Int := if (oneS xs).2.2 ≠ 0 then (oneS xs).2.2 else if okN xs (decN xs) = true then 0 else 120

end Go.Proofs.YtklchpdpooikdaaGreatDoor
