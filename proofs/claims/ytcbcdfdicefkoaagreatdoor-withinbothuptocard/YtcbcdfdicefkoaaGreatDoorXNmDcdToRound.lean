/-
  name.decoded: the attribute whose bytes an element has.
  What is put is found again: the plain functions undo one another. No Go, no program.
-/
import Derived.Deep.RegionHeld3
import Derived.Laws.ResultCell
import Derived.Test.YtcbcdfdicefkoaaGreatDoorXNmEncNToBoxSt
import Derived.Test.YtcbcdfdicefkoaaGreatDoorXOneToRTag
import Derived.Test.YtcbcdfdicefkoaaGreatDoorXODec
import Derived.Test.YtcbcdfdicefkoaaGreatDoorXCloneToFindIt
namespace Go.Proofs.YtcbcdfdicefkoaaGreatDoor
open Go.RowKit Go.IntWalk Go.Shelf

theorem Src.tailN {w : World} {ao : Option Addr} {n c : Nat} {xs : List Int} (hs : Src w ao n c xs) (h : Nat) (hh : h ≤ n) : Src w (cutA ao c h) (n - h) (c - h) (xs.drop h) := by
  have h1 := hs.cut h n hh (Nat.le_refl _)
  rwa [List.take_of_length_le (by rw [hs.hlen]; exact Nat.le_refl _)] at h1
theorem find_size (xs : List Int) (hb : ∀ x ∈ xs, 0 ≤ x ∧ x < 256) : ∃ h : Nat, (findS xs).2.2.1 = (h : Int) ∧ h ≤ xs.length := by
  rcases findS_cases xs hb with ⟨err, _, _, _, he⟩ | ⟨l, h, he, _, _, _, h4, _⟩
  · exact ⟨0, by rw [he]; rfl, Nat.zero_le _⟩
  · exact ⟨h, by rw [he], h4⟩

/-- What is read of an element's content. -/
def dcP (X : List Int) : List Int := (oneS X).2.1
def dcV (X : List Int) : List Int := (oneS ((dcP X).drop (findS (dcP X)).2.2.1.toNat)).2.1
def dcI (X : List Int) : List Int := (decS (contS (dcP X))).1
def dcA (X : List Int) : Int × ByteArray := if (dcI X).length = 4 then ((dcI X).getD 3 0, strOfNums (dcV X)) else (0, ByteArray.empty)
theorem one_byte (X : List Int) (h : Byt X) : Byt (oneS X).2.1 := by
  unfold oneS
  split
  · intro x hx; cases hx
  · split
    · intro x hx; cases hx
    · intro x hx
      exact h x (List.mem_of_mem_take (List.mem_of_mem_drop hx))
theorem one_len (X : List Int) : (oneS X).2.1.length ≤ X.length := by
  unfold oneS
  split
  · simp
  · split
    · simp
    · unfold contS
      rw [List.length_drop, List.length_take]
      omega
theorem cont_byteN (X : List Int) (h : Byt X) : Byt (contS X) := fun x hx => h x (List.mem_of_mem_take (List.mem_of_mem_drop hx))

theorem after2 {W : World} {g : Nat} {u0 u1 : Value} (hg : W.heap[g]? = some (.cells #[u0, u1] 118)) (x y : Value) :
    ((W.setCell ⟨g, 0, none⟩ x).setCell ⟨g, 1, none⟩ y).heap[g]? = some (.cells #[x, y] 118) := by
  have h1 := heap_setCell_same W g 0 _ _ x hg
  have h2 := heap_setCell_same _ g 1 _ _ y h1
  rw [h2]
  rfl
theorem two_cells {W : World} {g : Nat} {x y : Value} (h : W.heap[g]? = some (.cells #[x, y] 118)) : W.cell? ⟨g, 0, none⟩ = some x ∧ W.cell? ⟨g, 1, none⟩ = some y := by
  refine ⟨?_, ?_⟩ <;> simp [World.cell?, h]
set_option maxRecDepth 100000 in
set_option maxHeartbeats 2000000 in
theorem decoded_any (tag : Int) (ao : Option Addr) (n cap : Nat) (xs : List Int) (w : World) (hs : Src w ao n cap xs) (hN : n ≤ 1048576) :
    Calls Tryz.prog 145 #[.agg #[.int .i64 tag, .slice ao n cap]] w fun e w' => e = .returned (.agg #[.int .i64 (dcA xs).1, .string (dcA xs).2]) ∧ Below w.heap.size w w' := by
  have BX : Below w.heap.size w ((w.alloc (.cells #[.int .i64 tag, .slice ao n cap] 155)).alloc (.cells #[.int .i64 0, .string ⟨#[]⟩] 118)) := (nbelow w _).trans ((nbelow _ _).mono (by simp))
  have hz : (w.alloc (.cells #[.int .i64 tag, .slice ao n cap] 155)).heap.size = w.heap.size + 1 := by simp
  have hr : ((w.alloc (.cells #[.int .i64 tag, .slice ao n cap] 155)).alloc (.cells #[.int .i64 0, .string ⟨#[]⟩] 118)).heap[w.heap.size + 1]? = some (.cells #[.int .i64 0, .string ⟨#[]⟩] 118) := by rw [← hz]; exact heap_alloc_new _ _
  have hxb : Byt xs := hs.hbyt
  have hxl := hs.hlen
  have hPl : (oneS xs).2.1.length ≤ xs.length := one_len xs
  have h1 := hide (one_any ao n cap xs _ (hs.below BX) (by omega))
  have HBX := hide BX
  have HR := hide hr
  clear hs BX hr hz
  go_enter Tryz.func145, Tryz.ntmps145
  go_wp2_with fail
  refine h1.out.mono ?_
  rintro e w1 ⟨a1, m1, c1, rfl, o1, B1⟩
  have S1 := o1.toSrc (one_byte xs hxb)
  have HB1 := hide (HBX.out.trans (B1.mono HBX.out.size))
  have HR1 := hide ((B1.block _ (Array.getElem?_eq_some_iff.1 HR.out).1).trans HR.out)
  clear o1 B1 HBX HR h1
  have hDA : Hid (dcA xs = if (decS (contS (oneS xs).2.1)).1.length = 4 then ((decS (contS (oneS xs).2.1)).1.getD 3 0, strOfNums (oneS ((oneS xs).2.1.drop (findS (oneS xs).2.1).2.2.1.toNat)).2.1) else (0, ByteArray.empty)) := rfl
  generalize (oneS xs).2.1 = P at S1 hDA hPl
  generalize (oneS xs).1 = T1
  generalize (oneS xs).2.2 = E1
  obtain ⟨h, hh, hle⟩ := find_size P S1.hbyt
  have hPb : Byt P := S1.hbyt
  have hPm := S1.hlen
  have b1 := nbelow w1 (.cells #[.int .i64 T1, .slice a1 m1 c1] 155)
  have e1 : (w1.alloc (.cells #[.int .i64 T1, .slice a1 m1 c1] 155)).cell? ⟨w1.heap.size, 1, none⟩ = some (.slice a1 m1 c1) := by simp
  have S1b := S1.below b1
  have h20 := take_any a1 m1 c1 P _ S1b (by omega)
  rw [hh] at h20
  rw [hh, Int.toNat_natCast] at hDA
  have h2 := hide h20
  replace HB1 := hide (HB1.out.trans (b1.mono HB1.out.size))
  replace HR1 := hide ((b1.block _ (Array.getElem?_eq_some_iff.1 HR1.out).1).trans HR1.out)
  clear h20 S1 b1
  go_wp2_with fail
  refine h2.out.mono ?_
  rintro e w2 ⟨a2, m2, c2, rfl, o2, B2⟩
  have S2 := o2.toSrc (cont_byteN P hPb)
  have hm2 := S2.hlen
  have hCl : (contS P).length ≤ P.length := by unfold contS; rw [List.length_drop, List.length_take]; omega
  replace e1 := (B2.cell (p := ⟨w1.heap.size, 1, none⟩) (lt_of_cell e1)).trans e1
  replace S1b := S1b.below B2
  replace HB1 := hide (HB1.out.trans (B2.mono HB1.out.size))
  replace HR1 := hide ((B2.block _ (Array.getElem?_eq_some_iff.1 HR1.out).1).trans HR1.out)
  generalize (findS P).1 = T2
  generalize (findS P).2.2.2 = E2
  have b2 := nbelow w2 (.cells #[.int .i64 T2, .slice a2 m2 c2] 155)
  have e2 : (w2.alloc (.cells #[.int .i64 T2, .slice a2 m2 c2] 155)).cell? ⟨w2.heap.size, 1, none⟩ = some (.slice a2 m2 c2) := by simp
  have e1b : (w2.alloc (.cells #[.int .i64 T2, .slice a2 m2 c2] 155)).cell? ⟨w1.heap.size, 1, none⟩ = some (.slice a1 m1 c1) := (b2.cell (p := ⟨w1.heap.size, 1, none⟩) (lt_of_cell e1)).trans e1
  have sl := fun X => slice_lo X a1 m1 c1 (h : Int) h rfl (by omega)
  have S1t := (S1b.below b2).tailN h (by omega)
  have S2b := S2.below b2
  have h3 := hide (one_any _ _ _ _ _ S1t (by omega))
  replace HB1 := hide (HB1.out.trans (b2.mono HB1.out.size))
  replace HR1 := hide ((b2.block _ (Array.getElem?_eq_some_iff.1 HR1.out).1).trans HR1.out)
  have hVb : Byt (oneS (P.drop h)).2.1 := one_byte _ (fun x hx => hPb x (List.mem_of_mem_drop hx))
  clear S1t S1b S2 o2 B2 b2 h2 e1
  go_wp2_with fail
  refine h3.out.mono ?_
  rintro e w3 ⟨a3, m3, c3, rfl, o3, B3⟩
  have S3 := o3.toSrc hVb
  generalize (oneS (P.drop h)).2.1 = V at S3 hDA
  generalize (oneS (P.drop h)).1 = T3
  generalize (oneS (P.drop h)).2.2 = E3
  replace e2 := (B3.cell (p := ⟨w2.heap.size, 1, none⟩) (lt_of_cell e2)).trans e2
  have b3 := nbelow w3 (.cells #[.int .i64 T3, .slice a3 m3 c3] 155)
  have e3 : (w3.alloc (.cells #[.int .i64 T3, .slice a3 m3 c3] 155)).cell? ⟨w3.heap.size, 1, none⟩ = some (.slice a3 m3 c3) := by simp
  have e2b : (w3.alloc (.cells #[.int .i64 T3, .slice a3 m3 c3] 155)).cell? ⟨w2.heap.size, 1, none⟩ = some (.slice a2 m2 c2) := (b3.cell (p := ⟨w2.heap.size, 1, none⟩) (lt_of_cell e2)).trans e2
  have S2c := (S2b.below B3).below b3
  replace S3 := S3.below b3
  have h4 := hide (callsIn_wide.1 (decode_in a2 m2 c2 (contS P) _ S2c (by omega)))
  replace HB1 := hide ((HB1.out.trans (B3.mono HB1.out.size)).trans (b3.mono (Nat.le_trans HB1.out.size B3.size)))
  replace HR1 := hide ((B3.block _ (Array.getElem?_eq_some_iff.1 HR1.out).1).trans HR1.out)
  replace HR1 := hide ((b3.block _ (Array.getElem?_eq_some_iff.1 HR1.out).1).trans HR1.out)
  clear S2b S2c o3 B3 b3 h3 e2 e1b sl
  go_wp2_with fail
  refine h4.out.mono ?_
  rintro e w4 ⟨a4, L4, c4, rfl, o4, B4⟩
  replace S3 := S3.below B4
  replace e3 := (B4.cell (p := ⟨w3.heap.size, 1, none⟩) (lt_of_cell e3)).trans e3
  have HB2 := hide (HB1.out.trans (B4.mono HB1.out.size))
  have hr4 := (B4.block _ (Array.getElem?_eq_some_iff.1 HR1.out).1).trans HR1.out
  have z0 : w4.cell? ⟨w.heap.size + 1, 0, none⟩ = some (.int .i64 0) := by simp [World.cell?, hr4]
  have z1 : w4.cell? ⟨w.heap.size + 1, 1, none⟩ = some (.string ⟨#[]⟩) := by simp [World.cell?, hr4]
  have f0 : w4.frozen? ⟨w.heap.size + 1, 0, none⟩ = false := by simp [World.frozen?, hr4]
  have f1 : w4.frozen? ⟨w.heap.size + 1, 1, none⟩ = false := by simp [World.frozen?, hr4]
  have hr5 := hide hr4
  generalize (decS (contS P)).1 = A at o4 hDA
  generalize (decS (contS P)).2 = E4
  clear B4 HB1 HR1 h4 e2b hr4
  have hLA : L4 = A.length := by
    rcases o4.2 with ⟨h5, h6⟩ | ⟨g, cap, cur, h5, _⟩
    · cases h5; rw [h6]
    · exact (Value.slice.inj h5).2.1
  by_cases hA : A.length = 4
  · have hD : Hid (dcA xs = (A.getD 3 0, strOfNums V)) := by unfold Hid; rw [hDA.out, if_pos hA]
    obtain ⟨g, rfl⟩ : ∃ g, a4 = some ⟨g, 0, none⟩ := by
      rcases o4.2 with ⟨h5, h6⟩ | ⟨g, cap, cur, h5, _⟩
      · omega
      · exact ⟨g, (Value.slice.inj h5).1⟩
    have cq : w4.cell? ⟨g, 3, none⟩ = some (.int .i64 (A.getD 3 0)) := by
      have h7 := o4.cells (g := g) rfl 3 (.int .i64 (A.getD 3 0)) (by rw [List.getElem?_map, List.getElem?_eq_getElem (by omega)]; simp [List.getD, List.getElem?_eq_getElem (show 3 < A.length by omega)])
      rwa [add_none, Nat.zero_add] at h7
    obtain rfl : L4 = 4 := by omega
    have tq : (convert 60 9 (.slice a3 m3 c3)).run Tryz.prog w4.drew = .ok (.string (strOfNums V)) w4.drew := (S3.heap (w' := w4.drew) rfl).text
    clear o4 hLA hA S3
    generalize A.getD 3 0 = q at cq hD
    go_wp2_with fail
    go_region
    all_goals
      go_wp2
      have hz3 := two_cells (after2 (W := w4) hr5.out (.int .i64 q) (.string (strOfNums V)))
      refine bodyPost_ret (v := .agg #[.int .i64 q, .string (strOfNums V)]) (by simp [results, Tryz.results145, go_sem, hz3.1, hz3.2]) rfl ⟨by rw [hD.out], ?_⟩
      first | exact ((HB2.out.setCell (Nat.le_succ _) _).setCell (Nat.le_succ _) _).drew | exact ((HB2.out.drew).setCell (Nat.le_succ _) _).setCell (Nat.le_succ _) _
  · have hD : Hid (dcA xs = (0, ByteArray.empty)) := by unfold Hid; rw [hDA.out, if_neg hA]
    have hn : ¬ (L4 : Int) = 4 := by omega
    clear o4 S3 e3
    go_wp2
    have hz3 := two_cells (after2 (W := w4) hr5.out (.int .i64 0) (.string ⟨#[]⟩))
    refine bodyPost_ret (v := .agg #[.int .i64 0, .string ⟨#[]⟩]) (by simp [results, Tryz.results145, go_sem, hz3.1, hz3.2]) rfl ⟨by rw [hD.out]; rfl, ?_⟩
    exact (HB2.out.setCell (Nat.le_succ _) _).setCell (Nat.le_succ _) _

end Go.Proofs.YtcbcdfdicefkoaaGreatDoor

namespace Go.Proofs.YtcbcdfdicefkoaaGreatDoor

theorem digs_form (n : Nat) (h : 0 < n) (h' : n < 16777216) : ∃ d r, digs n = d :: r ∧ d ≠ 0 ∧ numOf (d :: r) = n ∧ (d :: r).length ≤ 3 := by
  unfold digs
  rw [if_neg (by omega)]
  by_cases h1 : n < 256
  · rw [if_pos h1]; exact ⟨_, _, rfl, by omega, by simp [numOf], by simp⟩
  · rw [if_neg h1]
    by_cases h2 : n < 65536
    · rw [if_pos h2]; exact ⟨_, _, rfl, by omega, by simp [numOf]; omega, by simp⟩
    · rw [if_neg h2]; exact ⟨_, _, rfl, by omega, by simp [numOf]; omega, by simp⟩

theorem takeLen_put (n : Nat) (h : n < 16777216) (ys : List Int) : takeLenS (lenB n ++ ys) = ((n : Int), ((lenB n).length : Int), 0) := by
  unfold lenB
  by_cases h1 : n < 128
  · rw [if_pos h1]
    unfold takeLenS
    simp
    omega
  · rw [if_neg h1]
    obtain ⟨d, r, e, hd, hn, hl⟩ := digs_form n (by omega) h
    rw [e]
    generalize hk : (d :: r).length = k at *
    have hk1 : 1 ≤ k := by simp at hk; omega
    unfold takeLenS
    have g0 : ((128 + (k : Int)) :: (d :: r) ++ ys).getD 0 0 = 128 + (k : Int) := by simp
    have g1 : ((128 + (k : Int)) :: (d :: r) ++ ys).getD 1 0 = d := by simp
    have gl : (((128 + (k : Int)) :: (d :: r) ++ ys).length : Int) = 1 + (k : Int) + (ys.length : Int) := by
      have : ((128 + (k : Int)) :: (d :: r) ++ ys).length = 1 + (d :: r).length + ys.length := by simp; omega
      rw [this, hk]; omega
    have gd : (((128 + (k : Int)) :: (d :: r) ++ ys).drop 1).take k = d :: r := by
      have : ((128 + (k : Int)) :: (d :: r) ++ ys).drop 1 = (d :: r) ++ ys := by simp
      rw [this, List.take_append_of_le_length (by omega), List.take_of_length_le (by omega)]
    rw [g0, g1, if_neg (by omega), if_neg (by omega), if_neg (by omega), gl, if_neg (by omega)]
    rw [show ((128 : Int) + (k : Int) - 128).toNat = k by omega, gd, hn, if_neg (by omega)]
    simp at hk
    simp
    omega

/-- The element's bytes, and whatever behind them: its tag and its content's places. -/
theorem find_put (t : Int) (ht : isTagB t = true) (xs rest : List Int) (h : xs.length < 16777216) :
    findS ([t] ++ lenB xs.length ++ xs ++ rest) = (t, 1 + ((lenB xs.length).length : Int), 1 + ((lenB xs.length).length : Int) + (xs.length : Int), 0) := by
  have hT := takeLen_put xs.length h (xs ++ rest)
  have hpos : 1 ≤ (lenB xs.length).length := by unfold lenB; split <;> simp
  have e : [t] ++ lenB xs.length ++ xs ++ rest = t :: (lenB xs.length ++ (xs ++ rest)) := by simp
  rw [e]
  generalize lenB xs.length = lb at *
  unfold findS
  have gl : (t :: (lb ++ (xs ++ rest))).length = 1 + lb.length + xs.length + rest.length := by simp; omega
  rw [gl]
  have g0 : (t :: (lb ++ (xs ++ rest))).getD 0 0 = t := by simp
  have gd : (t :: (lb ++ (xs ++ rest))).drop 1 = lb ++ (xs ++ rest) := by simp
  rw [g0, gd, hT, if_neg (by omega), if_neg (by rw [ht]; simp), if_neg (by omega)]
  simp only []
  rw [if_neg (by simp), if_neg (by omega)]

theorem cut_put (t : Int) (lb xs rest : List Int) : (([t] ++ lb ++ xs ++ rest).take (1 + lb.length + xs.length)).drop (1 + lb.length) = xs := by
  have e : [t] ++ lb ++ xs ++ rest = ([t] ++ lb) ++ (xs ++ rest) := by simp
  have hl : ([t] ++ lb).length = 1 + lb.length := by simp; omega
  rw [e, ← hl, List.take_append, List.take_of_length_le (by omega), List.drop_append]
  simp

/-- No element's bytes begin with those of another one. -/
theorem begins (t u : Int) (ht : isTagB t = true) (hu : isTagB u = true) (xs ys : List Int) (hx : xs.length < 16777216) (hy : ys.length < 16777216) (m : Nat)
    (hm : m = min ([t] ++ lenB xs.length ++ xs).length ([u] ++ lenB ys.length ++ ys).length)
    (he : ([t] ++ lenB xs.length ++ xs).take m = ([u] ++ lenB ys.length ++ ys).take m) : t = u ∧ xs = ys := by
  have key : ∀ (t u : Int) (xs ys : List Int), isTagB t = true → isTagB u = true → xs.length < 16777216 → ys.length < 16777216 →
      ([t] ++ lenB xs.length ++ xs).length ≤ ([u] ++ lenB ys.length ++ ys).length → [t] ++ lenB xs.length ++ xs = ([u] ++ lenB ys.length ++ ys).take ([t] ++ lenB xs.length ++ xs).length → t = u ∧ xs = ys := by
    intro t u xs ys ht hu hx hy hle he
    obtain ⟨rest, hr⟩ : ∃ rest, [u] ++ lenB ys.length ++ ys = [t] ++ lenB xs.length ++ xs ++ rest := by
      generalize [t] ++ lenB xs.length ++ xs = A at he
      generalize [u] ++ lenB ys.length ++ ys = B at he
      exact ⟨B.drop A.length, by have h := List.take_append_drop A.length B; rw [← he] at h; exact h.symm⟩
    have f1 := find_put t ht xs rest hx
    have f2 := find_put u hu ys [] hy
    rw [List.append_nil] at f2
    rw [← hr, f2] at f1
    simp only [Prod.mk.injEq] at f1
    obtain ⟨e1, e2, e3, _⟩ := f1
    refine ⟨e1.symm, ?_⟩
    have c1 := cut_put t (lenB xs.length) xs rest
    have c2 := cut_put u (lenB ys.length) ys []
    rw [List.append_nil] at c2
    rw [← hr] at c1
    have k1 : (lenB ys.length).length = (lenB xs.length).length := by omega
    have k2 : ys.length = xs.length := by omega
    have c3 := c1.symm
    rw [← k1, ← k2] at c3
    exact c3.trans c2
  rcases Nat.le_total ([t] ++ lenB xs.length ++ xs).length ([u] ++ lenB ys.length ++ ys).length with h | h
  · have e : m = ([t] ++ lenB xs.length ++ xs).length := by omega
    rw [e, List.take_of_length_le (Nat.le_refl _)] at he
    exact key t u xs ys ht hu hx hy h he
  · have e : m = ([u] ++ lenB ys.length ++ ys).length := by omega
    rw [e, List.take_of_length_le (Nat.le_refl ([u] ++ lenB ys.length ++ ys).length)] at he
    obtain ⟨a, b⟩ := key u t ys xs hu ht hy hx h he.symm
    exact ⟨a.symm, b.symm⟩

end Go.Proofs.YtcbcdfdicefkoaaGreatDoor
