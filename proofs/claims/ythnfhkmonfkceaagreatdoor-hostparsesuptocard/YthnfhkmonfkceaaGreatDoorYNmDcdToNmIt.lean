/-
  name.decoded: the attribute whose bytes an element has.
  name.typeOf, name.parsed.
  name.Parts, and the function that it answers: it goes over the pieces of a text between its commas.
-/
import Derived.Deep.RegionHeld3
import Derived.Laws.ResultCell
import Derived.Test.YthnfhkmonfkceaaGreatDoorYNmEncNToTxP5
import Derived.Test.YthnfhkmonfkceaaGreatDoorYOneToRTake
import Derived.Test.YthnfhkmonfkceaaGreatDoorYODec
import Derived.Test.YthnfhkmonfkceaaGreatDoorYNmLentToNmPar
import Derived.Test.YthnfhkmonfkceaaGreatDoorYTxP4ToSize
import Derived.Test.YthnfhkmonfkceaaGreatDoorYOSizeToRangeP
namespace Go.Proofs.YthnfhkmonfkceaaGreatDoor
open Go.RowKit Go.IntWalk Go.Shelf

theorem Src.tailN {w : World} {ao : Option Addr} {n c : Nat} {xs : List Int} (hs : Src w ao n c xs) (h : Nat) (hh : h ≤ n) : Src w (cutA ao c h) (n - h) (c - h) (xs.drop h) := by
  have h1 := hs.cut h n hh (Nat.le_refl _)
  rwa [List.take_of_length_le (by rw [hs.hlen]; exact Nat.le_refl _)] at h1
theorem find_size (xs : List Int) (hb : ∀ x ∈ xs, 0 ≤ x ∧ x < 256) : ∃ h : Nat, (findS xs).2.2.1 = (h : Int) ∧ h ≤ xs.length := by
  rcases findS_cases xs hb with ⟨err, _, _, _, he⟩ | ⟨l, h, he, _, _, _, h4, _⟩
  · exact ⟨0, by rw [he]; rfl, Nat.zero_le _⟩
  · exact ⟨h, by rw [he], h4⟩

/-- What is read of an element's content. -/
def dcP (X : List Int) : List Int := (oneS X).2.1
def dcV (X : List Int) : List Int := (oneS ((dcP X).drop (findS (dcP X)).2.2.1.toNat)).2.1
def dcI (X : List Int) : List Int := (decS (contS (dcP X))).1
def dcA (X : List Int) : Int × ByteArray := if (dcI X).length = 4 then ((dcI X).getD 3 0, strOfNums (dcV X)) else (0, ByteArray.empty)
theorem one_byte (X : List Int) (h : Byt X) : Byt (oneS X).2.1 := by
  unfold oneS
  split
  · intro x hx; cases hx
  · split
    · intro x hx; cases hx
    · intro x hx
      exact h x (List.mem_of_mem_take (List.mem_of_mem_drop hx))
theorem one_len (X : List Int) : (oneS X).2.1.length ≤ X.length := by
  unfold oneS
  split
  · simp
  · split
    · simp
    · unfold contS
      rw [List.length_drop, List.length_take]
      omega
theorem cont_byteN (X : List Int) (h : Byt X) : Byt (contS X) := fun x hx => h x (List.mem_of_mem_take (List.mem_of_mem_drop hx))

theorem after2 {W : World} {g : Nat} {u0 u1 : Value} (hg : W.heap[g]? = some (.cells #[u0, u1] 67)) (x y : Value) :
    ((W.setCell ⟨g, 0, none⟩ x).setCell ⟨g, 1, none⟩ y).heap[g]? = some (.cells #[x, y] 67) := by
  have h1 := heap_setCell_same W g 0 _ _ x hg
  have h2 := heap_setCell_same _ g 1 _ _ y h1
  rw [h2]
  rfl
theorem two_cells {W : World} {g : Nat} {x y : Value} (h : W.heap[g]? = some (.cells #[x, y] 67)) : W.cell? ⟨g, 0, none⟩ = some x ∧ W.cell? ⟨g, 1, none⟩ = some y := by
  refine ⟨?_, ?_⟩ <;> simp [World.cell?, h]
set_option maxRecDepth 100000 in
set_option maxHeartbeats 2000000 in
theorem decoded_any (tag : Int) (ao : Option Addr) (n cap : Nat) (xs : List Int) (w : World) (hs : Src w ao n cap xs) (hN : n ≤ 1048576) :
    Calls Tryz.prog 85 #[.agg #[.int .i64 tag, .slice ao n cap]] w fun e w' => e = .returned (.agg #[.int .i64 (dcA xs).1, .string (dcA xs).2]) ∧ Below w.heap.size w w' := by
  have BX : Below w.heap.size w ((w.alloc (.cells #[.int .i64 tag, .slice ao n cap] 101)).alloc (.cells #[.int .i64 0, .string ⟨#[]⟩] 67)) := (nbelow w _).trans ((nbelow _ _).mono (by simp))
  have hz : (w.alloc (.cells #[.int .i64 tag, .slice ao n cap] 101)).heap.size = w.heap.size + 1 := by simp
  have hr : ((w.alloc (.cells #[.int .i64 tag, .slice ao n cap] 101)).alloc (.cells #[.int .i64 0, .string ⟨#[]⟩] 67)).heap[w.heap.size + 1]? = some (.cells #[.int .i64 0, .string ⟨#[]⟩] 67) := by rw [← hz]; exact heap_alloc_new _ _
  have hxb : Byt xs := hs.hbyt
  have hxl := hs.hlen
  have hPl : (oneS xs).2.1.length ≤ xs.length := one_len xs
  have h1 := hide (one_any ao n cap xs _ (hs.below BX) (by omega))
  have HBX := hide BX
  have HR := hide hr
  clear hs BX hr hz
  go_enter Tryz.func85, Tryz.ntmps85
  go_wp2_with fail
  refine h1.out.mono ?_
  rintro e w1 ⟨a1, m1, c1, rfl, o1, B1⟩
  have S1 := o1.toSrc (one_byte xs hxb)
  have HB1 := hide (HBX.out.trans (B1.mono HBX.out.size))
  have HR1 := hide ((B1.block _ (Array.getElem?_eq_some_iff.1 HR.out).1).trans HR.out)
  clear o1 B1 HBX HR h1
  have hDA : Hid (dcA xs = if (decS (contS (oneS xs).2.1)).1.length = 4 then ((decS (contS (oneS xs).2.1)).1.getD 3 0, strOfNums (oneS ((oneS xs).2.1.drop (findS (oneS xs).2.1).2.2.1.toNat)).2.1) else (0, ByteArray.empty)) := rfl
  generalize (oneS xs).2.1 = P at S1 hDA hPl
  generalize (oneS xs).1 = T1
  generalize (oneS xs).2.2 = E1
  obtain ⟨h, hh, hle⟩ := find_size P S1.hbyt
  have hPb : Byt P := S1.hbyt
  have hPm := S1.hlen
  have b1 := nbelow w1 (.cells #[.int .i64 T1, .slice a1 m1 c1] 101)
  have e1 : (w1.alloc (.cells #[.int .i64 T1, .slice a1 m1 c1] 101)).cell? ⟨w1.heap.size, 1, none⟩ = some (.slice a1 m1 c1) := by simp
  have S1b := S1.below b1
  have h20 := take_any a1 m1 c1 P _ S1b (by omega)
  rw [hh] at h20
  rw [hh, Int.toNat_natCast] at hDA
  have h2 := hide h20
  replace HB1 := hide (HB1.out.trans (b1.mono HB1.out.size))
  replace HR1 := hide ((b1.block _ (Array.getElem?_eq_some_iff.1 HR1.out).1).trans HR1.out)
  clear h20 S1 b1
  go_wp2_with fail
  refine h2.out.mono ?_
  rintro e w2 ⟨a2, m2, c2, rfl, o2, B2⟩
  have S2 := o2.toSrc (cont_byteN P hPb)
  have hm2 := S2.hlen
  have hCl : (contS P).length ≤ P.length := by unfold contS; rw [List.length_drop, List.length_take]; omega
  replace e1 := (B2.cell (p := ⟨w1.heap.size, 1, none⟩) (lt_of_cell e1)).trans e1
  replace S1b := S1b.below B2
  replace HB1 := hide (HB1.out.trans (B2.mono HB1.out.size))
  replace HR1 := hide ((B2.block _ (Array.getElem?_eq_some_iff.1 HR1.out).1).trans HR1.out)
  generalize (findS P).1 = T2
  generalize (findS P).2.2.2 = E2
  have b2 := nbelow w2 (.cells #[.int .i64 T2, .slice a2 m2 c2] 101)
  have e2 : (w2.alloc (.cells #[.int .i64 T2, .slice a2 m2 c2] 101)).cell? ⟨w2.heap.size, 1, none⟩ = some (.slice a2 m2 c2) := by simp
  have e1b : (w2.alloc (.cells #[.int .i64 T2, .slice a2 m2 c2] 101)).cell? ⟨w1.heap.size, 1, none⟩ = some (.slice a1 m1 c1) := (b2.cell (p := ⟨w1.heap.size, 1, none⟩) (lt_of_cell e1)).trans e1
  have sl := fun X => slice_lo X a1 m1 c1 (h : Int) h rfl (by omega)
  have S1t := (S1b.below b2).tailN h (by omega)
  have S2b := S2.below b2
  have h3 := hide (one_any _ _ _ _ _ S1t (by omega))
  replace HB1 := hide (HB1.out.trans (b2.mono HB1.out.size))
  replace HR1 := hide ((b2.block _ (Array.getElem?_eq_some_iff.1 HR1.out).1).trans HR1.out)
  have hVb : Byt (oneS (P.drop h)).2.1 := one_byte _ (fun x hx => hPb x (List.mem_of_mem_drop hx))
  clear S1t S1b S2 o2 B2 b2 h2 e1
  go_wp2_with fail
  refine h3.out.mono ?_
  rintro e w3 ⟨a3, m3, c3, rfl, o3, B3⟩
  have S3 := o3.toSrc hVb
  generalize (oneS (P.drop h)).2.1 = V at S3 hDA
  generalize (oneS (P.drop h)).1 = T3
  generalize (oneS (P.drop h)).2.2 = E3
  replace e2 := (B3.cell (p := ⟨w2.heap.size, 1, none⟩) (lt_of_cell e2)).trans e2
  have b3 := nbelow w3 (.cells #[.int .i64 T3, .slice a3 m3 c3] 101)
  have e3 : (w3.alloc (.cells #[.int .i64 T3, .slice a3 m3 c3] 101)).cell? ⟨w3.heap.size, 1, none⟩ = some (.slice a3 m3 c3) := by simp
  have e2b : (w3.alloc (.cells #[.int .i64 T3, .slice a3 m3 c3] 101)).cell? ⟨w2.heap.size, 1, none⟩ = some (.slice a2 m2 c2) := (b3.cell (p := ⟨w2.heap.size, 1, none⟩) (lt_of_cell e2)).trans e2
  have S2c := (S2b.below B3).below b3
  replace S3 := S3.below b3
  have h4 := hide (callsIn_wide.1 (decode_in a2 m2 c2 (contS P) _ S2c (by omega)))
  replace HB1 := hide ((HB1.out.trans (B3.mono HB1.out.size)).trans (b3.mono (Nat.le_trans HB1.out.size B3.size)))
  replace HR1 := hide ((B3.block _ (Array.getElem?_eq_some_iff.1 HR1.out).1).trans HR1.out)
  replace HR1 := hide ((b3.block _ (Array.getElem?_eq_some_iff.1 HR1.out).1).trans HR1.out)
  clear S2b S2c o3 B3 b3 h3 e2 e1b sl
  go_wp2_with fail
  refine h4.out.mono ?_
  rintro e w4 ⟨a4, L4, c4, rfl, o4, B4⟩
  replace S3 := S3.below B4
  replace e3 := (B4.cell (p := ⟨w3.heap.size, 1, none⟩) (lt_of_cell e3)).trans e3
  have HB2 := hide (HB1.out.trans (B4.mono HB1.out.size))
  have hr4 := (B4.block _ (Array.getElem?_eq_some_iff.1 HR1.out).1).trans HR1.out
  have z0 : w4.cell? ⟨w.heap.size + 1, 0, none⟩ = some (.int .i64 0) := by simp [World.cell?, hr4]
  have z1 : w4.cell? ⟨w.heap.size + 1, 1, none⟩ = some (.string ⟨#[]⟩) := by simp [World.cell?, hr4]
  have f0 : w4.frozen? ⟨w.heap.size + 1, 0, none⟩ = false := by simp [World.frozen?, hr4]
  have f1 : w4.frozen? ⟨w.heap.size + 1, 1, none⟩ = false := by simp [World.frozen?, hr4]
  have hr5 := hide hr4
  generalize (decS (contS P)).1 = A at o4 hDA
  generalize (decS (contS P)).2 = E4
  clear B4 HB1 HR1 h4 e2b hr4
  have hLA : L4 = A.length := by
    rcases o4.2 with ⟨h5, h6⟩ | ⟨g, cap, cur, h5, _⟩
    · cases h5; rw [h6]
    · exact (Value.slice.inj h5).2.1
  by_cases hA : A.length = 4
  · have hD : Hid (dcA xs = (A.getD 3 0, strOfNums V)) := by unfold Hid; rw [hDA.out, if_pos hA]
    obtain ⟨g, rfl⟩ : ∃ g, a4 = some ⟨g, 0, none⟩ := by
      rcases o4.2 with ⟨h5, h6⟩ | ⟨g, cap, cur, h5, _⟩
      · omega
      · exact ⟨g, (Value.slice.inj h5).1⟩
    have cq : w4.cell? ⟨g, 3, none⟩ = some (.int .i64 (A.getD 3 0)) := by
      have h7 := o4.cells (g := g) rfl 3 (.int .i64 (A.getD 3 0)) (by rw [List.getElem?_map, List.getElem?_eq_getElem (by omega)]; simp [List.getD, List.getElem?_eq_getElem (show 3 < A.length by omega)])
      rwa [add_none, Nat.zero_add] at h7
    obtain rfl : L4 = 4 := by omega
    have tq : (convert 43 9 (.slice a3 m3 c3)).run Tryz.prog w4.drew = .ok (.string (strOfNums V)) w4.drew := (S3.heap (w' := w4.drew) rfl).text
    clear o4 hLA hA S3
    generalize A.getD 3 0 = q at cq hD
    go_wp2_with fail
    go_region
    all_goals
      go_wp2
      have hz3 := two_cells (after2 (W := w4) hr5.out (.int .i64 q) (.string (strOfNums V)))
      refine bodyPost_ret (v := .agg #[.int .i64 q, .string (strOfNums V)]) (by simp [results, Tryz.results85, go_sem, hz3.1, hz3.2]) rfl ⟨by rw [hD.out], ?_⟩
      first | exact ((HB2.out.setCell (Nat.le_succ _) _).setCell (Nat.le_succ _) _).drew | exact ((HB2.out.drew).setCell (Nat.le_succ _) _).setCell (Nat.le_succ _) _
  · have hD : Hid (dcA xs = (0, ByteArray.empty)) := by unfold Hid; rw [hDA.out, if_neg hA]
    have hn : ¬ (L4 : Int) = 4 := by omega
    clear o4 S3 e3
    go_wp2
    have hz3 := two_cells (after2 (W := w4) hr5.out (.int .i64 0) (.string ⟨#[]⟩))
    refine bodyPost_ret (v := .agg #[.int .i64 0, .string ⟨#[]⟩]) (by simp [results, Tryz.results85, go_sem, hz3.1, hz3.2]) rfl ⟨by rw [hD.out]; rfl, ?_⟩
    exact (HB2.out.setCell (Nat.le_succ _) _).setCell (Nat.le_succ _) _

end Go.Proofs.YthnfhkmonfkceaaGreatDoor

namespace Go.Proofs.YthnfhkmonfkceaaGreatDoor
open Go.RowKit Go.IntWalk Go.Shelf
attribute [local go_sem ↓] ld_lab

theorem cutE_D : ∀ l : List UInt8, cutE l = ((cutD 61 l).1, (cutD 61 l).2.1)
  | [] => rfl
  | x :: r => by
    have ih := cutE_D r
    rw [cutE, cutD]
    split
    · rfl
    · rw [ih]
theorem cutE_len (l : List UInt8) : (cutE l).1.length ≤ l.length ∧ (cutE l).2.length ≤ l.length := by
  have h := cutD_rest 61 l
  rw [cutE_D]
  exact ⟨h.2.1, h.1⟩
/-- The label at a place. -/
def labJ (j : Nat) : List UInt8 := (labS (j : Int)).data.toList
theorem type_none (l : List UInt8) (h : ∀ j, j < 12 → labJ j ≠ l) : typeU l = 0 := by
  have h3 := h 3 (by omega)
  have h5 := h 5 (by omega)
  have h6 := h 6 (by omega)
  have h7 := h 7 (by omega)
  have h8 := h 8 (by omega)
  have h10 := h 10 (by omega)
  have h11 := h 11 (by omega)
  have e3 : labJ 3 = [67, 78] := rfl
  have e5 : labJ 5 = [83, 78] := rfl
  have e6 : labJ 6 = [67] := rfl
  have e7 : labJ 7 = [76] := rfl
  have e8 : labJ 8 = [83, 84] := rfl
  have e10 : labJ 10 = [79] := rfl
  have e11 : labJ 11 = [79, 85] := rfl
  unfold typeU
  rw [if_neg (fun e => h3 (e3.trans e.symm)), if_neg (fun e => h5 (e5.trans e.symm)), if_neg (fun e => h6 (e6.trans e.symm)), if_neg (fun e => h7 (e7.trans e.symm)), if_neg (fun e => h8 (e8.trans e.symm)), if_neg (fun e => h10 (e10.trans e.symm)), if_neg (fun e => h11 (e11.trans e.symm))]
theorem type_some (l : List UInt8) (k : Nat) (hk : k < 12) (h : ∀ j, j < k → labJ j ≠ l) (he : labJ k = l) : typeU l = (k : Int) := by
  have key : k = 0 ∨ labJ 0 ≠ l := by
    rcases Nat.eq_zero_or_pos k with h0 | h0
    · exact .inl h0
    · exact .inr (h 0 h0)
  match k, hk with
  | 0, _ => rw [← he]; rfl
  | 1, _ => exact absurd he (key.resolve_left (by omega))
  | 2, _ => exact absurd he (key.resolve_left (by omega))
  | 3, _ => rw [← he]; rfl
  | 4, _ => exact absurd he (key.resolve_left (by omega))
  | 5, _ => rw [← he]; rfl
  | 6, _ => rw [← he]; rfl
  | 7, _ => rw [← he]; rfl
  | 8, _ => rw [← he]; rfl
  | 9, _ => exact absurd he (key.resolve_left (by omega))
  | 10, _ => rw [← he]; rfl
  | 11, _ => rw [← he]; rfl

def ixT (v u : Value) : Sem Value := Instr.index 133 v u
theorem ix_lab (v u : Value) : Instr.index 133 v u = ixT v u := rfl
attribute [local go_sem ↓] ix_lab
theorem labV_at (k : Nat) (hk : k < 12) : labV.toArray[k]? = some (.string (labS (k : Int))) := by
  match k, hk with
  | 0, _ | 1, _ | 2, _ | 3, _ | 4, _ | 5, _ | 6, _ | 7, _ | 8, _ | 9, _ | 10, _ | 11, _ => rfl
theorem ixT_at (A : Array Value) (hA : A.size = 12) (k : Nat) (hk : k < 12) (v : Value) (hv : A[k]? = some v) (w : World) : (ixT (.agg A) (.int .i64 (k : Int))).run Tryz.prog w = .ok v w := by
  have hs : (sizeOf 9).run Tryz.prog w = .ok 1 w := by kernel_rfl
  have hv2 : A[k]'(by omega) = v := by
    rw [Array.getElem?_eq_getElem (by omega)] at hv
    exact Option.some.inj hv
  unfold ixT Instr.index
  simp only [Sem.run_bind, asIntOf, Sem.run_pure, Result.andThen_ok, run_underlying Tryz.underlying133]
  rw [if_pos (by omega)]
  simp [Sem.run_bind, hs, part, hA, hk, hv2]
theorem lab_load2 {w : World} (h : TabN w) : (ldT 133 (.pointer (some ⟨2, 0, none⟩))).run Tryz.prog w = .ok (.agg labV.toArray) w :=
  run_loadAt_mid w 2 0 133 labV _ (labV_range h) Tryz.underlying133 rfl (by kernel_rfl)

set_option maxRecDepth 100000 in
set_option maxHeartbeats 4000000 in
theorem typeOf_any (s : ByteArray) (w : World) (hT : TabN w) :
    Calls Tryz.prog 120 #[.string s] w fun e w' => e = .returned (.int .i64 (typeU s.data.toList)) ∧ w' = w := by
  have hld := lab_load2 hT
  have hix := hide (fun (k : Nat) (hk : k < 12) => ixT_at labV.toArray rfl k hk _ (labV_at k hk) w)
  clear hT
  generalize labV.toArray = A at hld hix
  go_enter Tryz.func120, Tryz.ntmps120
  go_wp2
  go_loopw [6] (fun i wr => ∃ k : Nat, i = .int .i64 k ∧ k ≤ 12 ∧ Hid (∀ j, j < k → labJ j ≠ s.data.toList) ∧ wr = w) (fun i _ => 12 - (intOf i).toNat)
  case atStart => exact ⟨0, rfl, by omega, fun j hj => absurd hj (by omega), rfl⟩
  case round =>
    obtain ⟨k, rfl, hk, hne, rfl⟩ := hrel
    by_cases hlt : k < 12
    · have ltI : (k : Int) < 12 := by omega
      have hx := hix.out k hlt
      have hb := bs_beq (labJ k) s
      have hlab : (⟨(labJ k).toArray⟩ : ByteArray) = labS (k : Int) := rfl
      rw [hlab] at hb
      by_cases he : labJ k = s.data.toList
      · have hT : Hid (typeU s.data.toList = (k : Int)) := type_some _ k hlt hne.out he
        rw [decide_eq_true he] at hb
        clear hlab he
        go_wp2
        refine bodyPost_ret (v := .int .i64 (k : Int)) (by simp [results, Tryz.results120, go_sem]) rfl ⟨by rw [hT.out], rfl⟩
      · have hne2 : Hid (∀ j, j < k + 1 → labJ j ≠ s.data.toList) := fun j hj => by
          by_cases h : j < k
          · exact hne.out j h
          · obtain rfl : j = k := by omega
            exact he
        rw [decide_eq_false he] at hb
        clear hlab he
        go_wp2
        go_roundw
        case rel => exact ⟨k + 1, by go_num, by omega, hne2, by trivial⟩
        case measure => simp [intOf]; omega
    · obtain rfl : k = 12 := by omega
      have hT : Hid (typeU s.data.toList = 0) := type_none _ hne.out
      go_wp2
      refine bodyPost_ret (v := .int .i64 0) (by simp [results, Tryz.results120, go_sem]) rfl ⟨by rw [hT.out], rfl⟩

/-- The library's variable is laid. -/
def MLn (w : World) (m : Int) : Prop := w.cell? ⟨1, 0, none⟩ = some (.int .i64 m)
theorem MLn.below {w w' : World} {m : Int} (h : MLn w m) (hb : Below w.heap.size w w') : MLn w' m := (hb.cell (lt_of_cell h)).trans h

set_option maxRecDepth 100000 in
set_option maxHeartbeats 2000000 in
theorem parsed_any (s : ByteArray) (hs : s.size ≤ 1048576) (m : Int) (w : World) (hT : TabN w) (hM : MLn w m) :
    Calls Tryz.prog 98 #[.string s] w fun e w' => e = .returned (.agg #[.int .i64 (prsA s.data.toList).1, .string (prsA s.data.toList).2]) ∧ Below w.heap.size w w' := by
  have b0 := nbelow w (.cells #[.int .i64 0, .string ⟨#[]⟩] 67)
  have hr : (w.alloc (.cells #[.int .i64 0, .string ⟨#[]⟩] 67)).heap[w.heap.size]? = some (.cells #[.int .i64 0, .string ⟨#[]⟩] 67) := heap_alloc_new _ _
  have hcut : Hid (∀ W, MLn W m → Calls Tryz.prog 27 #[.string s, .string ⟨#[61]⟩] W fun e w' => ∃ b : Bool, e = .returned (.tuple #[.string ⟨(cutE s.data.toList).1.toArray⟩, .string ⟨(cutE s.data.toList).2.toArray⟩, .bool b]) ∧ Below W.heap.size W w') := fun W h => by
    refine (Tryz.strings_Cut s ⟨#[61]⟩ m W (by omega) h).mono ?_
    rintro e w' ⟨rfl, q, rfl⟩
    have e1 : (⟨#[61]⟩ : ByteArray).data.toList = [61] := rfl
    rw [e1, cut_one, cutE_D]
    exact ⟨_, rfl, ⟨rfl, rfl, rfl, Nat.le_refl _, fun _ _ => rfl⟩⟩
  have hl := (cutE_len s.data.toList).2
  rw [bs_len] at hl
  have HP : Hid (prsA s.data.toList = (typeU (cutE s.data.toList).1, ⟨(unmU (cutE s.data.toList).2).toArray⟩)) := rfl
  generalize prsA s.data.toList = A at *
  obtain ⟨A1, A2⟩ := A
  have hA := HP.out
  simp only [Prod.mk.injEq] at hA
  obtain ⟨hA1, hA2⟩ := hA
  have HT := hide (fun W (h : TabN W) => typeOf_any ⟨(cutE s.data.toList).1.toArray⟩ W h)
  have HU := hide (fun W => unmarked_any ⟨(cutE s.data.toList).2.toArray⟩ (Nat.le_trans hl hs) W)
  have e1 : (⟨(cutE s.data.toList).1.toArray⟩ : ByteArray).data.toList = (cutE s.data.toList).1 := rfl
  have e2 : (⟨(cutE s.data.toList).2.toArray⟩ : ByteArray).data.toList = (cutE s.data.toList).2 := rfl
  rw [e1, ← hA1] at HT
  rw [e2, ← hA2] at HU
  clear HP hA1 hA2 e1 e2 hl
  generalize (⟨(cutE s.data.toList).1.toArray⟩ : ByteArray) = L at *
  generalize (⟨(cutE s.data.toList).2.toArray⟩ : ByteArray) = V at *
  have HTab := hide (hT.below b0)
  have HML := hide (hM.below b0)
  have HR := hide hr
  have HB := hide b0
  clear hT hM hr b0
  go_enter Tryz.func98, Tryz.ntmps98
  go_wp2_with fail
  refine (hcut.out _ HML.out).mono ?_
  rintro e w1 ⟨b, rfl, B1⟩
  have HB1 := hide (HB.out.trans (B1.mono HB.out.size))
  have HTab1 := hide (HTab.out.below B1)
  have HR1 := hide ((B1.block _ (Array.getElem?_eq_some_iff.1 HR.out).1).trans HR.out)
  clear B1 HB HTab HR HML hcut
  go_wp2_with fail
  refine (HT.out w1 HTab1.out).mono ?_
  rintro e w2 ⟨rfl, rfl⟩
  go_wp2_with fail
  refine (HU.out w2).mono ?_
  rintro e w3 ⟨rfl, B3⟩
  have hr3 := (B3.block _ (Array.getElem?_eq_some_iff.1 HR1.out).1).trans HR1.out
  have HB3 := hide (HB1.out.trans (B3.mono HB1.out.size))
  have z0 : w3.cell? ⟨w.heap.size, 0, none⟩ = some (.int .i64 0) := by simp [World.cell?, hr3]
  have z1 : w3.cell? ⟨w.heap.size, 1, none⟩ = some (.string ⟨#[]⟩) := by simp [World.cell?, hr3]
  have f0 : w3.frozen? ⟨w.heap.size, 0, none⟩ = false := by simp [World.frozen?, hr3]
  have f1 : w3.frozen? ⟨w.heap.size, 1, none⟩ = false := by simp [World.frozen?, hr3]
  have hr5 := hide hr3
  clear B3 HR1 HB1 hr3 HT HU
  go_wp2
  have hz3 := two_cells (after2 (W := w3) hr5.out (.int .i64 A1) (.string A2))
  refine bodyPost_ret (v := .agg #[.int .i64 A1, .string A2]) (by simp [results, Tryz.results98, go_sem, hz3.1, hz3.2]) rfl ⟨rfl, ?_⟩
  exact (HB3.out.setCell (Nat.le_refl _) _).setCell (Nat.le_refl _) _

end Go.Proofs.YthnfhkmonfkceaaGreatDoor

namespace Go.Proofs.YthnfhkmonfkceaaGreatDoor
open Go.RowKit Go.Shelf Go.IntWalk
attribute [local go_sem] Oper.semAt_some

theorem parts_any (s : ByteArray) (w : World) :
    Calls Tryz.prog 97 #[.string s] w fun e w' => e = .returned (.func (.func 119) #[] #[.pointer (some ⟨w.heap.size, 0, none⟩)]) ∧ w' = w.alloc (.cells #[.string s] 9) := by
  go_enter Tryz.func97, Tryz.ntmps97
  go_wp2
  go_ret
  exact ⟨rfl, rfl⟩

/-- The pieces that are left, where the first of them begins at b and all ahead of k was looked at. -/
def remP (l : List UInt8) (b k : Nat) : List (List UInt8) := if k ≤ l.length then pcs (cutL l b k) (l.drop k) else [l.drop b]
theorem cut_snoc (l : List UInt8) (b k : Nat) (hb : b ≤ k) (hk : k < l.length) : cutL l b (k + 1) = cutL l b k ++ [l.getD k 0] := by
  unfold cutL
  rw [List.take_add_one, List.drop_append_of_le_length (by rw [List.length_take]; omega)]
  simp [List.getD, List.getElem?_eq_getElem hk]
theorem rem_mark2 (l : List UInt8) (b k : Nat) (hb : b ≤ k) (hk : k + 1 < l.length) (h : l.getD k 0 = 92) : remP l b k = remP l b (k + 2) := by
  unfold remP
  rw [if_pos (by omega), if_pos (by omega), drop_one l k (by omega), drop_one l (k + 1) hk, h, pcs_esc, cut_snoc l b (k + 1) (by omega) hk, cut_snoc l b k hb (by omega), h]
  simp
theorem rem_mark1 (l : List UInt8) (b k : Nat) (hb : b ≤ k) (hk : k + 1 = l.length) (h : l.getD k 0 = 92) : remP l b k = remP l b (k + 2) := by
  unfold remP
  have e : l.drop (k + 1) = [] := List.drop_eq_nil_of_le (by omega)
  have e2 : cutL l b (k + 1) = l.drop b := by unfold cutL; rw [List.take_of_length_le (by omega)]
  rw [if_pos (by omega), if_neg (by omega), drop_one l k (by omega), h, e, pcs_end, ← e2, cut_snoc l b k hb (by omega), h]
theorem rem_comma (l : List UInt8) (b k : Nat) (hk : k < l.length) (h : l.getD k 0 = 44) : remP l b k = cutL l b k :: remP l (k + 1) (k + 1) := by
  unfold remP
  have e : cutL l (k + 1) (k + 1) = [] := by unfold cutL; rw [List.drop_eq_nil_of_le (by rw [List.length_take]; omega)]
  rw [if_pos (by omega), if_pos (by omega), drop_one l k hk, h, pcs_comma, e]
theorem rem_plain (l : List UInt8) (b k : Nat) (hb : b ≤ k) (hk : k < l.length) (h : l.getD k 0 ≠ 92) (h2 : l.getD k 0 ≠ 44) : remP l b k = remP l b (k + 1) := by
  unfold remP
  rw [if_pos (by omega), if_pos (by omega), drop_one l k hk, pcs_plain _ _ _ h h2, cut_snoc l b k hb hk]
theorem rem_end (l : List UInt8) (b k : Nat) (hk : l.length ≤ k) : remP l b k = [l.drop b] := by
  unfold remP
  split
  · have e : k = l.length := by omega
    subst e
    rw [List.drop_eq_nil_of_le (Nat.le_refl _)]
    unfold cutL
    rw [List.take_of_length_le (Nat.le_refl _)]
    rfl
  · rfl

set_option maxRecDepth 100000 in
set_option maxHeartbeats 4000000 in
theorem parts1_in (n : Nat) (hn : 1 ≤ n) (l Bs : Nat) (s : ByteArray) (hs : s.size ≤ 1048576) (J : List (List UInt8) → World → Prop) (Jx : World → Prop) (W : World)
    (hB : ∀ ws W1, J ws W1 → W1.cell? ⟨Bs, 0, none⟩ = some (.string s)) (hK : ∀ ws W1 W2, J ws W1 → Below W1.heap.size W1 W2 → J ws W2)
    (hY : ∀ (u : List UInt8) (ws : List (List UInt8)) W1, J (u :: ws) W1 → u.length ≤ s.size → YieldAt Fence.wide (n - 1) Tryz.prog l #[.string ⟨u.toArray⟩] W1 fun e W' =>
      (e = .returned (.bool true) ∧ J ws W') ∨ (e = .returned (.bool false) ∧ Jx W'))
    (h0 : J (pcs [] s.data.toList) W) :
    CallsIn Fence.wide n Tryz.prog 119 #[.func (.yield l) #[] #[], .pointer (some ⟨Bs, 0, none⟩)] W fun e W' => (∃ v, e = .returned v) ∧ (J [] W' ∨ Jx W') := by
  refine callsIn_of_wp Tryz.func119 rfl trivial ?_ rfl
  simp only [Tryz.ntmps119, List.size_toArray, List.length_cons, List.length_nil, Nat.reduceAdd, Nat.reduceSub, Array.replicate_succ, Array.replicate_zero, List.push_toArray, List.append_toArray, List.nil_append, List.cons_append]
  have hSL := bs_len s
  have H0 : Hid (J (remP s.data.toList 0 0) W) := by
    unfold Hid remP
    rw [if_pos (Nat.zero_le _)]
    exact h0
  clear h0
  gi_wp2
  gi_loopw [3, 4] (fun bg at_ wr => ∃ (b k : Nat), bg = .int .i64 b ∧ at_ = .int .i64 k ∧ b ≤ k ∧ b ≤ s.size ∧ k ≤ s.size + 1 ∧ Hid (J (remP s.data.toList b k) wr)) (fun _ at_ _ => s.size - (intOf at_).toNat)
  case atStart => exact ⟨0, 0, rfl, rfl, Nat.le_refl _, Nat.zero_le _, Nat.zero_le _, H0⟩
  case round =>
    obtain ⟨b, k, rfl, rfl, hbk, hbs, hks, hJ⟩ := hrel
    have c1 := hB _ _ hJ.out
    by_cases hlt : k < s.size
    · have ltI : (k : Int) < (s.size : Int) := by omega
      obtain ⟨x, hx⟩ : ∃ x, (s[k]'hlt) = x := ⟨_, rfl⟩
      have hxd : s.data.toList.getD k 0 = x := by rw [← get_bs s k hlt]; exact hx
      have hxI : ((s[k]'hlt).toNat : Int) = (x.toNat : Int) := by rw [hx]
      have hx256 := x.toNat_lt
      obtain ⟨y, hy⟩ : ∃ y : Int, (x.toNat : Int) = y := ⟨_, rfl⟩
      rw [hy] at hxI
      by_cases h92 : x = 92
      · have q1 : (y == 92) = true := by rw [← hy, h92]; rfl
        have hR : Hid (J (remP s.data.toList b (k + 2)) wr) := by
          unfold Hid
          rcases Nat.lt_or_ge (k + 1) s.size with h' | h'
          · rw [← rem_mark2 s.data.toList b k hbk (by rw [hSL]; exact h') (by rw [hxd, h92])]; exact hJ.out
          · rw [← rem_mark1 s.data.toList b k hbk (by rw [hSL]; omega) (by rw [hxd, h92])]; exact hJ.out
        clear hJ hx hxd hy h92
        gi_wp2
        exact ⟨⟨b, k + 2, rfl, by go_num, by omega, hbs, by omega, hR⟩, by simp [intOf]; omega⟩
      · by_cases h44 : x = 44
        · have q1 : (y == 92) = false := by rw [← hy, h44]; rfl
          have q2 : (y == 44) = true := by rw [← hy, h44]; rfl
          have hR := rem_comma s.data.toList b k (by rw [hSL]; exact hlt) (by rw [hxd, h44])
          have hlen := cutL_len s.data.toList b k (by rw [hSL]; omega)
          have hCl := hide (fun X => clone_any ⟨(cutL s.data.toList b k).toArray⟩ (by show (cutL s.data.toList b k).toArray.size ≤ _; simp; omega) X)
          have sl : ∀ X, (Instr.slice 9 (.string s) (some (.int .i64 (b : Int))) (some (.int .i64 (k : Int))) none).run Tryz.prog X = .ok (.string ⟨(cutL s.data.toList b k).toArray⟩) X := fun X => by
            have h := run_slice_string (P := Tryz.prog) (w := X) 9 s .i64 .i64 (b : Int) (k : Int) Tryz.underlying9 (by omega) (by omega) (by omega)
            rw [h, ← cut_text]; simp
          rw [hR] at hJ
          have HY := hide (fun W1 h1 => hY (cutL s.data.toList b k) (remP s.data.toList (k + 1) (k + 1)) W1 h1 (by omega))
          have hK' := hide (fun W2 h => hK _ _ W2 hJ.out h)
          clear hlen hR hx hxd hy h92 h44
          generalize cutL s.data.toList b k = u at hJ sl HY hK' hCl
          gi_wp2_with (refine ⟨trivial, ?_⟩; gi_at_call 53; refine (callsIn_wide.2 (hCl.out _)).mono ?_; rintro e w2 ⟨rfl, D2⟩; obtain ⟨fn, tmps, assign, body, hy, hR⟩ := HY.out w2 (hK'.out _ D2))
          refine hR.mono ?_
          rintro e W3 (⟨rfl, hJ3⟩ | ⟨rfl, hx3⟩)
          · have hJ3' := hide hJ3
            clear hJ3
            gi_wp2
            exact ⟨⟨k + 1, k + 1, by go_num, by go_num, Nat.le_refl _, by omega, by omega, hJ3'⟩, by simp [intOf]; omega⟩
          · gi_wp2
            refine bodyPost_ret (results_none rfl _ _ _) rfl ?_
            exact ⟨⟨_, rfl⟩, .inr hx3⟩
        · have q1 : (y == 92) = false := beq_eq_false_iff_ne.2 (fun e => h92 (by apply UInt8.toNat_inj.1; show x.toNat = 92; omega))
          have q2 : (y == 44) = false := beq_eq_false_iff_ne.2 (fun e => h44 (by apply UInt8.toNat_inj.1; show x.toNat = 44; omega))
          have hR : Hid (J (remP s.data.toList b (k + 1)) wr) := by
            unfold Hid
            rw [← rem_plain s.data.toList b k hbk (by rw [hSL]; exact hlt) (by rw [hxd]; exact h92) (by rw [hxd]; exact h44)]
            exact hJ.out
          clear hJ hx hxd hy h92 h44
          gi_wp2
          exact ⟨⟨b, k + 1, rfl, by go_num, by omega, hbs, by omega, hR⟩, by simp [intOf]; omega⟩
    · have nI : ¬ (k : Int) < (s.size : Int) := by omega
      have hR := rem_end s.data.toList b k (by rw [hSL]; omega)
      rw [hR] at hJ
      have hlen : (s.data.toList.drop b).length ≤ s.size := by rw [List.length_drop, hSL]; omega
      have hCl := hide (fun X => clone_any ⟨(s.data.toList.drop b).toArray⟩ (by show (s.data.toList.drop b).toArray.size ≤ _; simp; omega) X)
      have ecut : cutL s.data.toList b s.size = s.data.toList.drop b := by unfold cutL; rw [List.take_of_length_le (by omega)]
      have sl : ∀ X, (Instr.slice 9 (.string s) (some (.int .i64 (b : Int))) none none).run Tryz.prog X = .ok (.string ⟨(s.data.toList.drop b).toArray⟩) X := fun X => by
        have h := run_slice_string_l (P := Tryz.prog) (w := X) 9 s Tryz.underlying9 .i64 (b : Int) (by omega) (by omega)
        rw [h, ← ecut, ← cut_text]; simp
      have HY := hide (fun W1 h1 => hY (s.data.toList.drop b) [] W1 h1 hlen)
      have hK' := hide (fun W2 h => hK _ _ W2 hJ.out h)
      clear hlen hR ecut
      generalize s.data.toList.drop b = u at hJ sl HY hK' hCl
      gi_wp2_with (refine ⟨trivial, ?_⟩; gi_at_call 53; refine (callsIn_wide.2 (hCl.out _)).mono ?_; rintro e w2 ⟨rfl, D2⟩; obtain ⟨fn, tmps, assign, body, hy, hR⟩ := HY.out w2 (hK'.out _ D2))
      refine hR.mono ?_
      rintro e W3 (⟨rfl, hJ3⟩ | ⟨rfl, hx3⟩)
      · have hJ3' := hide hJ3
        clear hJ3
        gi_wp2
        go_end0
        exact ⟨⟨_, rfl⟩, .inl hJ3'.out⟩
      · have hJ3' := hide hx3
        clear hx3
        gi_wp2
        go_end0
        exact ⟨⟨_, rfl⟩, .inr hJ3'.out⟩

end Go.Proofs.YthnfhkmonfkceaaGreatDoor
