/-
  host.inDigits and ofDigits.
-/
import Derived.Deep.RegionHeld3
import Derived.Test.YthnfhkmonfkceaaGreatDoorYHoSh1ToHoR2
import Derived.Test.YthnfhkmonfkceaaGreatDoorYHoR3ToHoSm
namespace Go.Proofs.YthnfhkmonfkceaaGreatDoor
open Go.RowKit Go.IntWalk Go.Shelf
attribute [local go_sem ↓] appOfH_of

def ixD (v : Value) : Sem Value := Instr.index 9 (.string ⟨#[48, 49, 50, 51, 52, 53, 54, 55, 56, 57, 97, 98, 99, 100, 101, 102]⟩) v
theorem ix_dig (v : Value) : Instr.index 9 (.string ⟨#[48, 49, 50, 51, 52, 53, 54, 55, 56, 57, 97, 98, 99, 100, 101, 102]⟩) v = ixD v := rfl
theorem hexC_at (n : Nat) (h : n < (⟨#[48, 49, 50, 51, 52, 53, 54, 55, 56, 57, 97, 98, 99, 100, 101, 102]⟩ : ByteArray).size) : (⟨#[48, 49, 50, 51, 52, 53, 54, 55, 56, 57, 97, 98, 99, 100, 101, 102]⟩ : ByteArray)[n]'h = hexC n := by
  have h2 := get_bs ⟨#[48, 49, 50, 51, 52, 53, 54, 55, 56, 57, 97, 98, 99, 100, 101, 102]⟩ n h
  rw [h2]
  rfl
set_option maxRecDepth 100000 in
theorem ixD_at (n : Nat) (hn : n < 16) (w : World) : (ixD (.int .u8 (n : Int))).run Tryz.prog w = .ok (.int .u8 ((hexC n).toNat : Int)) w := by
  have hz : (⟨#[48, 49, 50, 51, 52, 53, 54, 55, 56, 57, 97, 98, 99, 100, 101, 102]⟩ : ByteArray).size = 16 := rfl
  have h2 := hexC_at n (by rw [hz]; exact hn)
  unfold ixD
  have nI : (n : Int) < 16 := by omega
  go_simp

set_option maxRecDepth 100000 in
theorem ixD_atI (n : Nat) (hn : n < 16) (w : World) : (ixD (.int .i64 (n : Int))).run Tryz.prog w = .ok (.int .u8 ((hexC n).toNat : Int)) w := by
  have hz : (⟨#[48, 49, 50, 51, 52, 53, 54, 55, 56, 57, 97, 98, 99, 100, 101, 102]⟩ : ByteArray).size = 16 := rfl
  have h2 := hexC_at n (by rw [hz]; exact hn)
  unfold ixD
  have nI : (n : Int) < 16 := by omega
  go_simp

attribute [local go_sem ↓] ix_dig

theorem hexS_app : ∀ a b, hexS (a ++ b) = hexS a ++ hexS b
  | [], _ => rfl
  | c :: a, b => by rw [List.cons_append, hexS, hexS, hexS_app a b, List.append_assoc]
theorem hexS_len : ∀ l : List UInt8, (hexS l).length = 2 * l.length
  | [] => rfl
  | c :: r => by rw [hexS, List.length_append, hexS_len r]; simp [hex2]; omega
set_option maxRecDepth 100000 in
theorem and_low (n : Nat) (h : n < 256) : bits .and .u8 (n : Int) 15 = ((n % 16 : Nat) : Int) := (show ∀ k : Fin 256, bits .and .u8 ((k.val : Nat) : Int) 15 = ((k.val % 16 : Nat) : Int) by decide +kernel) ⟨n, h⟩

theorem app_twoH {W : World} {base : Nat} {v : Value} {xs : List Int} (h : OwnB W base v xs) (A B : Int) (hA : 0 ≤ A ∧ A < 256) (hB : 0 ≤ B ∧ B < 256) (t : Nat) (ht : xs.length + 2 = t) (hl : t ≤ 140737488355328) (hbase : base ≤ W.heap.size) :
    ∃ g c w2, (appOfH #[43, 43] 43 #[v, .slice (some ⟨W.heap.size, 0, none⟩) 2 2]).run Tryz.prog (W.alloc (.cells #[.int .u8 A, .int .u8 B] 5)) = .ok (.slice (some ⟨g, 0, none⟩) t c) w2 ∧
      OwnB w2 base (.slice (some ⟨g, 0, none⟩) t c) (xs ++ [A, B]) ∧ (W.alloc (.cells #[.int .u8 A, .int .u8 B] 5)).grownBy w2 v.ownBlock := by
  have hs : Src (W.alloc (.cells #[.int .u8 A, .int .u8 B] 5)) (some ⟨W.heap.size, 0, none⟩) 2 2 [A, B] := Src.litAt [A, B] _ 2 _ rfl rfl (by intro x hx; simp at hx; omega) (by decide) rfl
  obtain ⟨g, c', w', h1, h2, _, _, _, _, h3⟩ := run_appN (W.alloc (.cells #[.int .u8 A, .int .u8 B] 5)) 43 base v xs (h.alloc _) _ 2 2 [A, B] hs t (by simp; omega) (.inr (by simp)) hl (by simp; omega)
  exact ⟨g, c', w', h1, h2, h3⟩

set_option maxRecDepth 100000 in
set_option maxHeartbeats 2000000 in
theorem inDigits_any (l : List UInt8) (hs : l.length ≤ 1048576) (w : World) :
    Calls Tryz.prog 34 #[.string (tx l)] w fun e w' => e = .returned (.string (tx (hexS l))) ∧ Below w.heap.size w w' := by
  have hz : (tx l).size = l.length := tx_size l
  obtain ⟨i0, hi, hz0, hz1, hz2⟩ := info_parts Tryz.infoB
  obtain ⟨wm, hmk, hown, hgm⟩ := run_make_own (P := Tryz.prog) (w := w) w.heap.size 43 5 i0 (.int .u8 0) 1 Tryz.underlying43 hi hz0 hz1 .i64 .i64 (2 * l.length) (by rw [hz2]; omega) (by unfold maxLen; omega) (Nat.le_refl _)
  clear hi hz0 hz1 hz2 i0
  have HO : Hid (OwnB wm w.heap.size (.slice (some ⟨w.heap.size, 0, none⟩) 0 (2 * l.length)) (nums [])) := hown
  have HG := hide (below_of_grown hgm)
  have hsI : (l.length : Int) ≤ 1048576 := by omega
  have hzI : ((tx l).size : Int) = (l.length : Int) := by omega
  have h2I : ((2 * l.length : Nat) : Int) = 2 * (l.length : Int) := by omega
  rw [h2I] at hmk
  have hgb := hide (fun (k : Nat) (h : k < (tx l).size) => get_bs (tx l) k h)
  clear hown hgm h2I
  rw [tx_list] at hgb
  generalize tx l = s at *
  go_enter Tryz.func34, Tryz.ntmps34
  go_wp2
  go_loopw [3, 11] (fun v i wr => ∃ (k g c : Nat) (M : List UInt8), v = .slice (some ⟨g, 0, none⟩) (2 * k) c ∧ i = .int .i64 k ∧ k ≤ l.length ∧ Hid (OwnB wr w.heap.size (.slice (some ⟨g, 0, none⟩) (2 * k) c) (nums M)) ∧ Hid (M = hexS (l.take k)) ∧ Below w.heap.size w wr) (fun _ i _ => l.length - (intOf i).toNat)
  case atStart => exact ⟨0, w.heap.size, 2 * l.length, [], rfl, rfl, Nat.zero_le _, HO, by unfold Hid; simp [hexS], HG.out⟩
  case round =>
    obtain ⟨k, g, c, M0, rfl, rfl, hk, hO, hE, hB⟩ := hrel
    have hBs := hB.size
    by_cases hlt : k < l.length
    · have ltI : (k : Int) < (l.length : Int) := by omega
      have hks : k < s.size := by omega
      have ltS : (k : Int) < (s.size : Int) := by omega
      obtain ⟨x, hx⟩ : ∃ x, (s[k]'hks) = x := ⟨_, rfl⟩
      have hxd : l.getD k 0 = x := by rw [← hgb.out k hks]; exact hx
      have hxI : ((s[k]'hks).toNat : Int) = (x.toNat : Int) := by rw [hx]
      have hx256 := x.toNat_lt
      have hsn : Hid (hexS (l.take (k + 1)) = hexS (l.take k) ++ hex2 x) := by
        unfold Hid
        rw [List.take_succ_eq_append_getElem hlt, hexS_app]
        have e : l[k] = x := by rw [← hxd]; simp [List.getD, hlt]
        rw [e]
        simp [hexS]
      obtain ⟨n, hn⟩ : ∃ n, x.toNat = n := ⟨_, rfl⟩
      have i1 := fun W => ixD_at (n / 16) (by omega) W
      have i2 := fun W => ixD_at (n % 16) (by omega) W
      have hal := and_low n (by omega)
      have hq1 : ((n / 16 : Nat) : Int) = (n : Int) / 16 := by omega
      rw [hq1] at i1
      obtain ⟨P, hP⟩ : ∃ P : Int, ((n % 16 : Nat) : Int) = P := ⟨_, rfl⟩
      rw [hP] at i2 hal
      have hHX : Hid (hex2 x = [hexC (n / 16), hexC (n % 16)]) := by unfold Hid; rw [← hn]; rfl
      rw [hn] at hxI
      obtain ⟨A, hA⟩ : ∃ A : Int, ((hexC (n / 16)).toNat : Int) = A := ⟨_, rfl⟩
      obtain ⟨B, hB2⟩ : ∃ B : Int, ((hexC (n % 16)).toNat : Int) = B := ⟨_, rfl⟩
      have hA0 : 0 ≤ A ∧ A < 256 := by have := (hexC (n / 16)).toNat_lt; omega
      have hB0 : 0 ≤ B ∧ B < 256 := by have := (hexC (n % 16)).toNat_lt; omega
      have hlen := OwnB.eqlen hO.out
      have HN : Hid (nums (M0 ++ hex2 x) = nums M0 ++ [A, B]) := by unfold Hid; rw [nums_app, hHX.out, ← hA, ← hB2]; rfl
      rw [hA] at i1
      rw [hB2] at i2
      have HLN := hide hlen
      have hE2 : Hid (M0 ++ hex2 x = hexS (l.take (k + 1))) := by unfold Hid; rw [hsn.out, ← hE.out]
      clear hsn hHX hA hB2 hx hxd hn hlen hE hq1 hP
      generalize nums M0 = M at hO HN HLN
      have HOd : Hid (OwnB wr.drew w.heap.size (.slice (some ⟨g, 0, none⟩) (2 * k) c) M) := hO.out.belowA (Below.refl _ _).drew
      have HBd := hide (hB.drew)
      go_wp2
      refine wp_region_held_drew (S := fun _ => True) (by kernel_rfl) trivial (fun hS => ?_)
      generalize wr.drew = X0 at *
      refine wpAnyH_take (i := 0) (v := ?_) rfl (by kernel_rfl) (by kernel_rfl) (by kernel_rfl) (fun _ _ _ h => h) (Or.inl ⟨by rfl, ?_⟩) (by assumption) ?_
      rotate_left
      · intro wq _
        go_simp
        try with_reducible rfl
      simp only [List.getElem_toArray, List.getElem_cons_zero, Act.put, List.setIfInBounds_toArray, List.set_cons_zero, List.set_cons_succ]
      refine wpAnyH_take (i := 1) (v := ?_) rfl (by kernel_rfl) (by kernel_rfl) (by kernel_rfl) (fun _ _ _ h => h) (Or.inl ⟨by rfl, ?_⟩) (by assumption) ?_
      rotate_left
      · intro wq _
        go_simp
        try with_reducible rfl
      simp only [List.getElem_toArray, List.getElem_cons_succ, List.getElem_cons_zero, Act.put, List.setIfInBounds_toArray, List.set_cons_zero, List.set_cons_succ]
      refine wpAnyH_take (i := 2) (v := ?_) rfl (by kernel_rfl) (by kernel_rfl) (by kernel_rfl) (fun _ _ _ h => h) (Or.inl ⟨by rfl, ?_⟩) (by assumption) ?_
      rotate_left
      · intro wq _
        go_simp
        try with_reducible rfl
      simp only [List.getElem_toArray, List.getElem_cons_succ, List.getElem_cons_zero, Act.put, List.setIfInBounds_toArray, List.set_cons_zero, List.set_cons_succ]
      refine wpAnyH_take (i := 3) (v := ?_) rfl (by kernel_rfl) (by kernel_rfl) (by kernel_rfl) (fun _ _ _ h => h) (Or.inl ⟨by rfl, ?_⟩) (by assumption) ?_
      rotate_left
      · intro wq _
        go_simp
        try with_reducible rfl
      simp only [List.getElem_toArray, List.getElem_cons_succ, List.getElem_cons_zero, Act.put, List.setIfInBounds_toArray, List.set_cons_zero, List.set_cons_succ]
      refine wpAnyH_take (i := 4) (v := ?_) rfl (by kernel_rfl) (by kernel_rfl) (by kernel_rfl) (fun _ _ _ h => h) (Or.inl ⟨by rfl, ?_⟩) (by assumption) ?_
      rotate_left
      · intro wq _
        go_simp
        try with_reducible rfl
      simp only [List.getElem_toArray, List.getElem_cons_succ, List.getElem_cons_zero, Act.put, List.setIfInBounds_toArray, List.set_cons_zero, List.set_cons_succ]
      refine wpAnyH_take (i := 5) (v := ?_) rfl (by kernel_rfl) (by kernel_rfl) (by kernel_rfl) (fun _ _ _ h => h) (Or.inl ⟨by rfl, ?_⟩) (by assumption) ?_
      rotate_left
      · intro wq _
        go_simp
        try with_reducible rfl
      simp only [List.getElem_toArray, List.getElem_cons_succ, List.getElem_cons_zero, Act.put, List.setIfInBounds_toArray, List.set_cons_zero, List.set_cons_succ]
      refine wpAnyH_take (i := 6) (v := ?_) rfl (by kernel_rfl) (by kernel_rfl) (by kernel_rfl) (fun _ _ _ h => h) (Or.inl ⟨by rfl, ?_⟩) (by assumption) ?_
      rotate_left
      · intro wq _
        go_simp
        try with_reducible rfl
      simp only [List.getElem_toArray, List.getElem_cons_succ, List.getElem_cons_zero, Act.put, List.setIfInBounds_toArray, List.set_cons_zero, List.set_cons_succ]
      refine wpAnyH_take (i := 7) (v := ?_) rfl (by kernel_rfl) (by kernel_rfl) (by kernel_rfl) (fun _ _ _ h => h) (Or.inl ⟨by rfl, ?_⟩) (by assumption) ?_
      rotate_left
      · intro wq _
        go_simp
        try with_reducible rfl
      simp only [List.getElem_toArray, List.getElem_cons_succ, List.getElem_cons_zero, Act.put, List.setIfInBounds_toArray, List.set_cons_zero, List.set_cons_succ]
      refine wpAnyH_take (i := 8) (v := ?_) rfl (by kernel_rfl) (by kernel_rfl) (by kernel_rfl) (fun _ _ _ h => h) (Or.inl ⟨by rfl, ?_⟩) (by assumption) ?_
      rotate_left
      · intro wq _
        go_simp
        try with_reducible rfl
      simp only [List.getElem_toArray, List.getElem_cons_succ, List.getElem_cons_zero, Act.put, List.setIfInBounds_toArray, List.set_cons_zero, List.set_cons_succ]
      refine wpAnyH_take (i := 9) (v := ?_) rfl (by kernel_rfl) (by kernel_rfl) (by kernel_rfl) (fun _ _ _ h => h) (Or.inl ⟨by rfl, ?_⟩) (by assumption) ?_
      rotate_left
      · intro wq _
        go_simp
        try with_reducible rfl
      simp only [List.getElem_toArray, List.getElem_cons_succ, List.getElem_cons_zero, Act.put, List.setIfInBounds_toArray, List.set_cons_zero, List.set_cons_succ]
      refine wpAnyH_take (i := 10) (v := ?_) rfl (by kernel_rfl) (by kernel_rfl) (by kernel_rfl) (fun _ _ _ h => h) (Or.inl ⟨by rfl, ?_⟩) (by assumption) ?_
      rotate_left
      · intro wq _
        go_simp
        try with_reducible rfl
      simp only [List.getElem_toArray, List.getElem_cons_succ, List.getElem_cons_zero, Act.put, List.setIfInBounds_toArray, List.set_cons_zero, List.set_cons_succ]
      refine wpAnyH_ready (rs := [11]) (by kernel_rfl) (by simp) ?_
      refine AllReadyH.cons rfl (fun Kq hKq => ?_) AllReadyH.nil
      go_simp
      refine hKq.out _ _ trivial (fun _ => ?_)
      clear hKq Kq
      obtain ⟨g4, c4, w4, hrun, ho4, hg4⟩ := app_twoH HOd.out A B hA0 hB0 (2 * (k + 1)) (by rw [← HLN.out]; omega) (by omega) HBd.out.size
      have hB4 := hide ((HBd.out.alloc HBd.out.size _).grown hg4 (by have := HBd.out.size; simp; omega) (by intro q hq; cases hq; exact (OwnB.lt HOd.out g rfl).1))
      clear hg4
      refine wpAnyH_ready (rs := [12]) (by kernel_rfl) (by simp) ?_
      refine AllReadyH.cons rfl (fun Kq hKq => ?_) AllReadyH.nil
      go_simp
      refine hKq.out _ _ trivial (fun _ => ?_)
      clear hKq Kq
      refine wpAnyH_ready (rs := [13]) (by kernel_rfl) (by simp) ?_
      refine AllReadyH.cons rfl (fun Kq hKq => ?_) AllReadyH.nil
      go_simp
      refine hKq.out _ _ trivial (fun _ => ?_)
      clear hKq Kq
      refine wpAnyH_done (by kernel_rfl) ?_ _
      go_wp2
      go_roundw
      case rel => exact ⟨k + 1, g4, c4, M0 ++ hex2 x, rfl, by go_num, by omega, by rw [HN.out]; exact ho4, hE2, hB4.out⟩
      case measure => simp [intOf]; omega
    · obtain rfl : k = l.length := by omega
      have nI : ¬ ((l.length : Int) < (l.length : Int)) := by omega
      have hall : l.take l.length = l := List.take_of_length_le (Nat.le_refl _)
      have hMU : M0 = hexS l := by have h := hE.out; rw [hall] at h; exact h
      subst hMU
      have ht := (OwnB.toSrc hO.out (nums_byte _)).text
      rw [nums_text] at ht
      clear hall
      go_wp2
      go_ret
      exact ⟨rfl, hB⟩

def digC : ByteArray := ⟨#[48, 49, 50, 51, 52, 53, 54, 55, 56, 57, 97, 98, 99, 100, 101, 102]⟩
theorem index_any (x : UInt8) (w : World) : Calls Tryz.prog 74 #[.string ⟨#[48, 49, 50, 51, 52, 53, 54, 55, 56, 57, 97, 98, 99, 100, 101, 102]⟩, .int .u8 x.toNat] w fun e w' => e = .returned (.int .i64 (nib x)) ∧ w' = w := by
  have h := Tryz.strings_IndexByte ⟨#[48, 49, 50, 51, 52, 53, 54, 55, 56, 57, 97, 98, 99, 100, 101, 102]⟩ (x.toNat : Int) w
  have e : ((x.toNat : Int)).toNat.toUInt8 = x := by simp
  rw [e] at h
  exact h
theorem nib_rangeH (x : UInt8) : -1 ≤ nib x ∧ nib x ≤ 15 :=
  ⟨Lib.indexByte_ge _ _, (show ∀ k : Fin 256, nib (UInt8.ofNat k.val) ≤ 15 by decide +kernel) ⟨x.toNat, x.toNat_lt⟩ |> fun h => by rw [show UInt8.ofNat x.toNat = x by simp] at h; exact h⟩
theorem unhH_app : ∀ (n : Nat) (a : List UInt8) (x y : UInt8), a.length = 2 * n → unhH (a ++ [x, y]) = unhH a ++ [UInt8.ofNat (hbI (nib x) (nib y))]
  | 0, a, x, y, h => by
    obtain rfl : a = [] := List.eq_nil_of_length_eq_zero h
    rfl
  | n + 1, [], x, y, h => by simp at h
  | n + 1, [_], x, y, h => by simp at h; omega
  | n + 1, u :: v :: r, x, y, h => by
    have ih := unhH_app n r x y (by simp at h; omega)
    rw [List.cons_append, List.cons_append, unhH, unhH, ih, List.cons_append]
theorem unhH_odd : ∀ (n : Nat) (a : List UInt8) (x : UInt8), a.length = 2 * n → unhH (a ++ [x]) = unhH a
  | 0, a, x, h => by
    obtain rfl : a = [] := List.eq_nil_of_length_eq_zero h
    rfl
  | n + 1, [], x, h => by simp at h
  | n + 1, [_], x, h => by simp at h; omega
  | n + 1, u :: v :: r, x, h => by
    have ih := unhH_odd n r x (by simp at h; omega)
    rw [List.cons_append, List.cons_append, unhH, unhH, ih]

set_option maxRecDepth 100000 in
set_option maxHeartbeats 2000000 in
theorem ofDigits_any (l : List UInt8) (hs : l.length ≤ 1048576) (w : World) :
    Calls Tryz.prog 54 #[.string (tx l)] w fun e w' => e = .returned (.string (tx (unhH l))) ∧ Below w.heap.size w w' := by
  have hz : (tx l).size = l.length := tx_size l
  obtain ⟨i0, hi, hz0, hz1, hz2⟩ := info_parts Tryz.infoB
  obtain ⟨wm, hmk, hown, hgm⟩ := run_make_own (P := Tryz.prog) (w := w) w.heap.size 43 5 i0 (.int .u8 0) 1 Tryz.underlying43 hi hz0 hz1 .i64 .i64 (l.length / 2) (by rw [hz2]; omega) (by unfold maxLen; omega) (Nat.le_refl _)
  clear hi hz0 hz1 hz2 i0
  have HO : Hid (OwnB wm w.heap.size (.slice (some ⟨w.heap.size, 0, none⟩) 0 (l.length / 2)) (nums [])) := hown
  have HG := hide (below_of_grown hgm)
  have hsI : (l.length : Int) ≤ 1048576 := by omega
  have hzI : ((tx l).size : Int) = (l.length : Int) := by omega
  obtain ⟨q, hq⟩ : ∃ q, l.length / 2 = q := ⟨_, rfl⟩
  have td : Int.tdiv (l.length : Int) 2 = (q : Int) := by rw [Int.tdiv_eq_ediv_of_nonneg (by omega)]; omega
  have qI : (q : Int) ≤ 1048576 := by omega
  rw [hq] at hmk HO
  have hgb := hide (fun (k : Nat) (h : k < (tx l).size) => get_bs (tx l) k h)
  clear hown hgm
  rw [tx_list] at hgb
  generalize tx l = s at *
  go_enter Tryz.func54, Tryz.ntmps54
  go_wp2
  go_loopw [3, 4] (fun v i wr => ∃ (k j g c : Nat) (M : List UInt8), v = .slice (some ⟨g, 0, none⟩) k c ∧ i = .int .i64 j ∧ j = 2 * k + 1 ∧ 2 * k ≤ l.length ∧ Hid (OwnB wr w.heap.size (.slice (some ⟨g, 0, none⟩) k c) (nums M)) ∧ Hid (M = unhH (l.take (2 * k))) ∧ Below w.heap.size w wr) (fun _ i _ => l.length + 1 - (intOf i).toNat)
  case atStart => exact ⟨0, 1, w.heap.size, q, [], rfl, rfl, rfl, Nat.zero_le _, HO, by unfold Hid; simp [unhH], HG.out⟩
  case round =>
    obtain ⟨k, j, g, c, M0, rfl, rfl, hj, hk, hO, hE, hB⟩ := hrel
    have hBs := hB.size
    by_cases hlt : j < l.length
    · have ltI : (j : Int) < (l.length : Int) := by omega
      obtain ⟨i, hi⟩ : ∃ i, 2 * k = i := ⟨_, rfl⟩
      have hji : (j : Int) - 1 = (i : Int) := by omega
      have hji2 : (j : Int) + 2 = ((j + 2 : Nat) : Int) := by omega
      have his : i < s.size := by omega
      have hjs : j < s.size := by omega
      have iI : (i : Int) < (l.length : Int) := by omega
      obtain ⟨x, hx⟩ : ∃ x, (s[i]'his) = x := ⟨_, rfl⟩
      obtain ⟨y, hy⟩ : ∃ y, (s[j]'hjs) = y := ⟨_, rfl⟩
      have hxd : l.getD i 0 = x := by rw [← hgb.out i his]; exact hx
      have hyd : l.getD j 0 = y := by rw [← hgb.out j hjs]; exact hy
      have hsn : Hid (unhH (l.take (i + 2)) = unhH (l.take i) ++ [UInt8.ofNat (hbI (nib x) (nib y))]) := by
        unfold Hid
        have e : l.take (i + 2) = l.take i ++ [x, y] := by
          rw [show i + 2 = (i + 1) + 1 by omega, List.take_succ_eq_append_getElem (show i + 1 < l.length by omega), List.take_succ_eq_append_getElem (show i < l.length by omega)]
          have e1 : l[i]'(by omega) = x := by rw [← hxd]; simp [List.getD, show i < l.length by omega]
          have e2 : l[i + 1]'(by omega) = y := by
            have e3 : l.getD (i + 1) 0 = y := by rw [← hyd]; congr 1; omega
            rw [← e3]; simp [List.getD, show i + 1 < l.length by omega]
          rw [e1, e2]
          simp
        rw [e, unhH_app k _ x y (by rw [List.length_take]; omega)]
      have hwd := hb_word (nib_rangeH x).1 (nib_rangeH x).2 (nib_rangeH y).1 (nib_rangeH y).2
      unfold hbZ at hwd
      have HX := hide (fun W => index_any x W)
      have HY := hide (fun W => index_any y W)
      obtain ⟨r1, r2⟩ := nib_rangeH x
      obtain ⟨r3, r4⟩ := nib_rangeH y
      have hxI : ((s[i]'his).toNat : Int) = (x.toNat : Int) := by rw [hx]
      have hyI : ((s[j]'hjs).toNat : Int) = (y.toNat : Int) := by rw [hy]
      generalize nib x = a at *
      generalize nib y = b at *
      obtain ⟨X, hX⟩ : ∃ X : Int, (x.toNat : Int) = X := ⟨_, rfl⟩
      obtain ⟨Y, hY⟩ : ∃ Y : Int, (y.toNat : Int) = Y := ⟨_, rfl⟩
      rw [hX] at hxI HX
      rw [hY] at hyI HY
      clear hx hy hxd hyd hX hY
      have hlen := OwnB.eqlen hO.out
      have HLN := hide hlen
      have HOd : Hid (OwnB wr.drew w.heap.size (.slice (some ⟨g, 0, none⟩) k c) (nums M0)) := hO.out.belowA (Below.refl _ _).drew
      have HBd := hide (hB.drew)
      have wi : IntKind.i64.wrap (i : Int) = (i : Int) := i64_in _ (by omega)
      have i0 : (0 : Int) ≤ (i : Int) := by omega
      have j0 : (0 : Int) ≤ (j : Int) := by omega
      have HJ := hide (And.intro hj hi)
      clear hlen hO hj hi hji2
      go_wp2
      refine wp_region_held_drew (S := fun _ => True) (by kernel_rfl) trivial (fun hS => ?_)
      generalize wr.drew = X0 at *
      refine wpAnyH_take (i := 0) (v := ?_) rfl (by kernel_rfl) (by kernel_rfl) (by kernel_rfl) (fun _ _ _ h => h) (Or.inl ⟨by rfl, ?_⟩) (by assumption) ?_
      rotate_left
      · intro wq _
        go_simp
        try with_reducible rfl
      simp only [List.getElem_toArray, List.getElem_cons_zero, Act.put, List.setIfInBounds_toArray, List.set_cons_zero, List.set_cons_succ]
      refine wpAnyH_take (i := 1) (v := ?_) rfl (by kernel_rfl) (by kernel_rfl) (by kernel_rfl) (fun _ _ _ h => h) (Or.inl ⟨by rfl, ?_⟩) (by assumption) ?_
      rotate_left
      · intro wq _
        go_simp
        try with_reducible rfl
      simp only [List.getElem_toArray, List.getElem_cons_succ, List.getElem_cons_zero, Act.put, List.setIfInBounds_toArray, List.set_cons_zero, List.set_cons_succ]
      refine wpAnyH_take (i := 2) (v := ?_) rfl (by kernel_rfl) (by kernel_rfl) (by kernel_rfl) (fun _ _ _ h => h) (Or.inl ⟨by rfl, ?_⟩) (by assumption) ?_
      rotate_left
      · intro wq _
        go_simp
        try with_reducible rfl
      simp only [List.getElem_toArray, List.getElem_cons_succ, List.getElem_cons_zero, Act.put, List.setIfInBounds_toArray, List.set_cons_zero, List.set_cons_succ]
      refine wpAnyH_take (i := 3) (v := ?_) rfl (by kernel_rfl) (by kernel_rfl) (by kernel_rfl) (fun _ _ _ h => h) (Or.inl ⟨by rfl, ?_⟩) (by assumption) ?_
      rotate_left
      · intro wq _
        go_simp
        try with_reducible rfl
      simp only [List.getElem_toArray, List.getElem_cons_succ, List.getElem_cons_zero, Act.put, List.setIfInBounds_toArray, List.set_cons_zero, List.set_cons_succ]
      refine wpAnyH_take (i := 5) (v := ?_) rfl (by kernel_rfl) (by kernel_rfl) (by kernel_rfl) (fun _ _ _ h => h) (Or.inl ⟨by rfl, ?_⟩) (by assumption) ?_
      rotate_left
      · intro wq _
        go_simp
        try with_reducible rfl
      simp only [List.getElem_toArray, List.getElem_cons_succ, List.getElem_cons_zero, Act.put, List.setIfInBounds_toArray, List.set_cons_zero, List.set_cons_succ]
      refine wpAnyH_take (i := 6) (v := ?_) rfl (by kernel_rfl) (by kernel_rfl) (by kernel_rfl) (fun _ _ _ h => h) (Or.inl ⟨by rfl, ?_⟩) (by assumption) ?_
      rotate_left
      · intro wq _
        go_simp
        try with_reducible rfl
      simp only [List.getElem_toArray, List.getElem_cons_succ, List.getElem_cons_zero, Act.put, List.setIfInBounds_toArray, List.set_cons_zero, List.set_cons_succ]
      refine wpAnyH_take (i := 7) (v := ?_) rfl (by kernel_rfl) (by kernel_rfl) (by kernel_rfl) (fun _ _ _ h => h) (Or.inl ⟨by rfl, ?_⟩) (by assumption) ?_
      rotate_left
      · intro wq _
        go_simp
        try with_reducible rfl
      simp only [List.getElem_toArray, List.getElem_cons_succ, List.getElem_cons_zero, Act.put, List.setIfInBounds_toArray, List.set_cons_zero, List.set_cons_succ]
      refine wpAnyH_ready (rs := [4]) (by kernel_rfl) (by simp) ?_
      refine AllReadyH.cons rfl (fun Kq hKq => ?_) AllReadyH.nil
      go_simp
      refine (HX.out _).mono ?_
      rintro e vv ⟨rfl, rfl⟩
      refine hKq.out _ _ trivial (fun _ => ?_)
      clear hKq Kq
      refine wpAnyH_ready (rs := [8]) (by kernel_rfl) (by simp) ?_
      refine AllReadyH.cons rfl (fun Kq hKq => ?_) AllReadyH.nil
      go_simp
      refine (HY.out _).mono ?_
      rintro e vv ⟨rfl, rfl⟩
      refine hKq.out _ _ trivial (fun _ => ?_)
      clear hKq Kq
      refine wpAnyH_take (i := 9) (v := ?_) rfl (by kernel_rfl) (by kernel_rfl) (by kernel_rfl) (fun _ _ _ h => h) (Or.inl ⟨by rfl, ?_⟩) (by assumption) ?_
      rotate_left
      · intro wq _
        go_simp
        try with_reducible rfl
      simp only [List.getElem_toArray, List.getElem_cons_succ, List.getElem_cons_zero, Act.put, List.setIfInBounds_toArray, List.set_cons_zero, List.set_cons_succ]
      refine wpAnyH_take (i := 10) (v := ?_) rfl (by kernel_rfl) (by kernel_rfl) (by kernel_rfl) (fun _ _ _ h => h) (Or.inl ⟨by rfl, ?_⟩) (by assumption) ?_
      rotate_left
      · intro wq _
        go_simp
        try with_reducible rfl
      simp only [List.getElem_toArray, List.getElem_cons_succ, List.getElem_cons_zero, Act.put, List.setIfInBounds_toArray, List.set_cons_zero, List.set_cons_succ]
      refine wpAnyH_done (by kernel_rfl) ?_ _
      obtain ⟨g4, c4, w4, hrun, ho4, hg4⟩ := app_byteH HOd.out (UInt8.ofNat (hbI a b)) (by have := HLN.out; unfold nums at this; rw [List.length_map] at this; omega) HBd.out.size
      have hM0 : M0.length = k := by have := HLN.out; unfold nums at this; rw [List.length_map] at this; omega
      have hB4 := hide ((HBd.out.alloc HBd.out.size _).grown hg4 (by have := HBd.out.size; simp; omega) (by intro q hq; cases hq; exact (OwnB.lt HOd.out g rfl).1))
      rw [hM0, hwd] at hrun
      rw [hM0] at ho4
      have hE2 : Hid (M0 ++ [UInt8.ofNat (hbI a b)] = unhH (l.take (i + 2))) := by
        unfold Hid
        rw [hsn.out, hE.out, HJ.out.2]
      generalize UInt8.ofNat (hbI a b) = N at *
      clear hg4 hsn hwd
      go_wp2
      go_roundw
      case rel => exact ⟨k + 1, j + 2, g4, c4, M0 ++ [N], rfl, by go_num, by have := HJ.out.1; omega, by have := HJ.out; omega, ho4, by rw [show 2 * (k + 1) = i + 2 by have := HJ.out; omega]; exact hE2, hB4.out⟩
      case measure => simp [intOf]; omega
    · have nI : ¬ ((j : Int) < (l.length : Int)) := by omega
      have hMU : Hid (M0 = unhH l) := by
        unfold Hid
        rw [hE.out]
        rcases Nat.lt_or_ge (2 * k) l.length with h | h
        · have e : l = l.take (2 * k) ++ [l[2 * k]] := by
            have e1 := List.take_succ_eq_append_getElem h
            rw [← e1, List.take_of_length_le (by omega)]
          conv => rhs; rw [e, unhH_odd k _ _ (by rw [List.length_take]; omega)]
        · rw [List.take_of_length_le h]
      have ht := (OwnB.toSrc hO.out (nums_byte _)).text
      rw [nums_text] at ht
      clear hj hk
      go_wp2
      go_ret
      exact ⟨by rw [← hMU.out]; rfl, hB⟩

end Go.Proofs.YthnfhkmonfkceaaGreatDoor
