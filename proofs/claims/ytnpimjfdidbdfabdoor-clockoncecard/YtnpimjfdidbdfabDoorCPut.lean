/-
  clock.Put.
-/
import Derived.Test.YtnpimjfdidbdfabDoorCText
import Derived.Test.YtnpimjfdidbdfabDoorCRow
namespace Go.Proofs.YtnpimjfdidbdfabDoor
open Go.RowKit

/-- A time's content, its year by so many digits. -/
def conV (k y m q h i s : Nat) : List Int := dg k y ++ (dg 2 m ++ (dg 2 q ++ (dg 2 h ++ (dg 2 i ++ dg 2 s)))) ++ [90]

theorem dig5 (k : Nat) (a b c d e : Nat) : joinI k [] [a, b, c, d, e] = dg k a ++ (dg k b ++ (dg k c ++ (dg k d ++ dg k e))) := by simp [joinI]

theorem conV_len (k y m q h i s : Nat) : (conV k y m q h i s).length = k + 11 := by simp [conV, dg_len]

theorem conV_byte (k y m q h i s : Nat) : ∀ x ∈ conV k y m q h i s, 0 ≤ x ∧ x < 256 := by
  intro x hx
  simp only [conV, List.mem_append, List.mem_cons, List.not_mem_nil, or_false] at hx
  rcases hx with (hx | hx | hx | hx | hx | hx) | rfl
  all_goals first | exact dg_bytes _ _ _ hx | omega

theorem yearWidth_2 (w : World) : Calls Tryd.prog 13 #[.int .i64 23] w fun e w' => e = .returned (.int .i64 2) ∧ w' = w := by
  go_enter Tryd.func13, Tryd.ntmps13
  go_wp2
  go_ret
  exact ⟨rfl, rfl⟩

theorem yearWidth_4 (w : World) : Calls Tryd.prog 13 #[.int .i64 24] w fun e w' => e = .returned (.int .i64 4) ∧ w' = w := by
  go_enter Tryd.func13, Tryd.ntmps13
  go_wp2
  go_ret
  exact ⟨rfl, rfl⟩

set_option maxRecDepth 100000 in
set_option maxHeartbeats 8000000 in
theorem put_gen2 (t : Int) (y m q h i s : Nat) (hy : y ≤ 100000 ∧ m ≤ 100000 ∧ q ≤ 100000 ∧ h ≤ 100000 ∧ i ≤ 100000 ∧ s ≤ 100000) (hY : (y : Int) ≤ 2049) (w : World)
    (C1 : Calls Tryd.prog 10 #[.int .i64 t] w fun e w' => e = .returned (.tuple #[agg6 y m q h i s, .int .i64 0]) ∧ Below w.heap.size w w') :
    Calls Tryd.prog 8 #[.int .i64 t] w fun e w' => ∃ g cap, e = .returned (.tuple #[.int .i64 23, .slice (some ⟨g, 0, none⟩) 13 cap, .int .i64 0]) ∧ RowB w' w.heap.size g 13 cap (conV 2 y m q h i s) ∧ Below w.heap.size w w' := by
  have C1 := hide C1
  unfold agg6 at C1
  have yw := hide (fun W => yearWidth_2 W)
  have d1 : Hid (∀ (W : World) (b : Nat), b < W.heap.size → W.cell? ⟨b, 0, none⟩ = some (.int .i64 (y : Int)) → Calls Tryd.prog 18 #[.int .i64 2, .string ⟨#[]⟩, .slice (some ⟨b, 0, none⟩) 1 1] W fun e w' => e = .returned (.string (strOfNums (joinI 2 [] [y]))) ∧ Below W.heap.size W w') :=
    fun W b hb hc => digits_2 [] (by simp) b [y] 1 rfl (by omega) (by omega) (by simp; omega) W (fun k hk => by
      match k, hk with
      | 0, _ => exact hc) hb
  have d2 : Hid (∀ (W : World) (b : Nat), b < W.heap.size → W.cell? ⟨b, 0, none⟩ = some (.int .i64 (m : Int)) → W.cell? ⟨b, 1, none⟩ = some (.int .i64 (q : Int)) → W.cell? ⟨b, 2, none⟩ = some (.int .i64 (h : Int)) → W.cell? ⟨b, 3, none⟩ = some (.int .i64 (i : Int)) → W.cell? ⟨b, 4, none⟩ = some (.int .i64 (s : Int)) → Calls Tryd.prog 18 #[.int .i64 2, .string ⟨#[]⟩, .slice (some ⟨b, 0, none⟩) 5 5] W fun e w' => e = .returned (.string (strOfNums (joinI 2 [] [m, q, h, i, s]))) ∧ Below W.heap.size W w') :=
    fun W b hb x0 x1 x2 x3 x4 => digits_2 [] (by simp) b [m, q, h, i, s] 5 rfl (by omega) (by omega) (by simp; omega) W (fun k hk => by
      match k, hk with
      | 0, _ => exact x0
      | 1, _ => exact x1
      | 2, _ => exact x2
      | 3, _ => exact x3
      | 4, _ => exact x4) hb
  rw [dig1] at d1
  rw [dig5] at d2
  have a1 : strOfNums (dg 2 y) ++ strOfNums (dg 2 m ++ (dg 2 q ++ (dg 2 h ++ (dg 2 i ++ dg 2 s)))) = strOfNums (dg 2 y ++ (dg 2 m ++ (dg 2 q ++ (dg 2 h ++ (dg 2 i ++ dg 2 s))))) := strOf_append _ _
  have a2 : strOfNums (dg 2 y ++ (dg 2 m ++ (dg 2 q ++ (dg 2 h ++ (dg 2 i ++ dg 2 s))))) ++ (⟨#[90]⟩ : ByteArray) = strOfNums (conV 2 y m q h i s) := strOf_append _ [90]
  have z1 : (strOfNums (dg 2 y)).size = 2 := by rw [strOfNums_size, dg_len]
  have z2' : (strOfNums (dg 2 m ++ (dg 2 q ++ (dg 2 h ++ (dg 2 i ++ dg 2 s))))).size = 10 := by simp [strOfNums_size, dg_len]
  have z3' : (strOfNums (dg 2 y ++ (dg 2 m ++ (dg 2 q ++ (dg 2 h ++ (dg 2 i ++ dg 2 s)))))).size = 12 := by simp [strOfNums_size, dg_len]
  have hcv : Hid (∀ W, ∃ cap w', (convert 9 22 (.string (strOfNums (conV 2 y m q h i s)))).run Tryd.prog W = .ok (.slice (some ⟨W.heap.size, 0, none⟩) 13 cap) w' ∧ RowB w' W.heap.size W.heap.size 13 cap (conV 2 y m q h i s) ∧ Below W.heap.size W w') := by
    intro W
    have := bytes_of W (conV 2 y m q h i s) (conV_byte 2 y m q h i s) (by rw [conV_len]; omega)
    rw [conV_len] at this
    exact this
  generalize conV 2 y m q h i s = XS at *
  generalize strOfNums XS = T4 at *
  generalize strOfNums (dg 2 y ++ (dg 2 m ++ (dg 2 q ++ (dg 2 h ++ (dg 2 i ++ dg 2 s))))) = T3 at *
  generalize strOfNums (dg 2 m ++ (dg 2 q ++ (dg 2 h ++ (dg 2 i ++ dg 2 s)))) = T2 at *
  generalize strOfNums (dg 2 y) = T1 at *
  have n1 : ¬ 9223372036854775807 < T1.size + T2.size := by omega
  have n2 : ¬ 9223372036854775807 < T3.size + 1 := by omega
  clear z1 z2' z3' hy
  go_enter Tryd.func8, Tryd.ntmps8
  go_wp2_with fail
  refine C1.out.mono ?_
  rintro e w1 ⟨rfl, B1⟩
  have K1 := Six.new w1 34 y m q h i s rfl
  have BW : Hid (Below w.heap.size w (w1.alloc (.cells #[.int .i64 y, .int .i64 m, .int .i64 q, .int .i64 h, .int .i64 i, .int .i64 s] 34))) := B1.alloc B1.size _
  go_wp2
  have hlt : w1.heap.size < (w1.alloc (.cells #[.int .i64 y, .int .i64 m, .int .i64 q, .int .i64 h, .int .i64 i, .int .i64 s] 34)).heap.size := by simp
  generalize w1.alloc (.cells #[.int .i64 y, .int .i64 m, .int .i64 q, .int .i64 h, .int .i64 i, .int .i64 s] 34) = W0 at *
  generalize w1.heap.size = g at *
  have HK := hide K1
  obtain ⟨c0, c1, c2, c3, c4, c5⟩ := K1
  clear B1
  go_region_held3 (fun W => W.cell? ⟨g, 0, none⟩ = some (.int .i64 y) ∧ W.cell? ⟨g, 1, none⟩ = some (.int .i64 m) ∧ W.cell? ⟨g, 2, none⟩ = some (.int .i64 q) ∧ W.cell? ⟨g, 3, none⟩ = some (.int .i64 h) ∧ W.cell? ⟨g, 4, none⟩ = some (.int .i64 i) ∧ W.cell? ⟨g, 5, none⟩ = some (.int .i64 s)) (first | exact ⟨by assumption, by assumption, by assumption, by assumption, by assumption, by assumption⟩ | go_keep) (first | (go_at_call 13; refine (yw.out _).mono ?_; rintro e w0 ⟨rfl, hw⟩; have hw2 := hw.symm; subst hw2) | (go_at_call_of 18 (5 : Nat); refine (d2.out _ _ ?_ ?_ ?_ ?_ ?_ ?_).mono ?_; exact (by first | omega | (simp; omega) | simp); exact (by first | assumption | (simp; done) | exact (hc2 _ _ (by first | (simp; done) | (simp; omega))).trans (by simp)); exact (by first | assumption | (simp; done) | exact (hc2 _ _ (by first | (simp; done) | (simp; omega))).trans (by simp)); exact (by first | assumption | (simp; done) | exact (hc2 _ _ (by first | (simp; done) | (simp; omega))).trans (by simp)); exact (by first | assumption | (simp; done) | exact (hc2 _ _ (by first | (simp; done) | (simp; omega))).trans (by simp)); exact (by first | assumption | (simp; done) | exact (hc2 _ _ (by first | (simp; done) | (simp; omega))).trans (by simp)); rintro e w3 ⟨rfl, B3⟩; obtain ⟨hc3, hf3⟩ := bcell B3; have z3 := B3.size; (try simp at z3); have q30 := (hc3 g 0 (Nat.lt_of_lt_of_le hlt (by first | omega | (simp; omega) | simp))).trans (show _ = some (Value.int IntKind.i64 y) by first | assumption | simp [*]); have q31 := (hc3 g 1 (Nat.lt_of_lt_of_le hlt (by first | omega | (simp; omega) | simp))).trans (show _ = some (Value.int IntKind.i64 m) by first | assumption | simp [*]); have q32 := (hc3 g 2 (Nat.lt_of_lt_of_le hlt (by first | omega | (simp; omega) | simp))).trans (show _ = some (Value.int IntKind.i64 q) by first | assumption | simp [*]); have q33 := (hc3 g 3 (Nat.lt_of_lt_of_le hlt (by first | omega | (simp; omega) | simp))).trans (show _ = some (Value.int IntKind.i64 h) by first | assumption | simp [*]); have q34 := (hc3 g 4 (Nat.lt_of_lt_of_le hlt (by first | omega | (simp; omega) | simp))).trans (show _ = some (Value.int IntKind.i64 i) by first | assumption | simp [*]); have q35 := (hc3 g 5 (Nat.lt_of_lt_of_le hlt (by first | omega | (simp; omega) | simp))).trans (show _ = some (Value.int IntKind.i64 s) by first | assumption | simp [*])) | (go_at_call_of 18 (1 : Nat); refine (d1.out _ _ ?_ ?_).mono ?_; exact (by first | omega | (simp; omega) | simp); exact (by first | assumption | simp [*]); rintro e w2 ⟨rfl, B2⟩; obtain ⟨hc2, hf2⟩ := bcell B2; have z2 := B2.size; (try simp at z2); have q20 := (hc2 g 0 (Nat.lt_of_lt_of_le hlt (by first | omega | (simp; omega) | simp))).trans (show _ = some (Value.int IntKind.i64 y) by first | assumption | simp [*]); have q21 := (hc2 g 1 (Nat.lt_of_lt_of_le hlt (by first | omega | (simp; omega) | simp))).trans (show _ = some (Value.int IntKind.i64 m) by first | assumption | simp [*]); have q22 := (hc2 g 2 (Nat.lt_of_lt_of_le hlt (by first | omega | (simp; omega) | simp))).trans (show _ = some (Value.int IntKind.i64 q) by first | assumption | simp [*]); have q23 := (hc2 g 3 (Nat.lt_of_lt_of_le hlt (by first | omega | (simp; omega) | simp))).trans (show _ = some (Value.int IntKind.i64 h) by first | assumption | simp [*]); have q24 := (hc2 g 4 (Nat.lt_of_lt_of_le hlt (by first | omega | (simp; omega) | simp))).trans (show _ = some (Value.int IntKind.i64 i) by first | assumption | simp [*]); have q25 := (hc2 g 5 (Nat.lt_of_lt_of_le hlt (by first | omega | (simp; omega) | simp))).trans (show _ = some (Value.int IntKind.i64 s) by first | assumption | simp [*])))
  all_goals
    have BT : Below W0.heap.size W0 w3 := by
      first
        | exact ((((Below.refl _ _).alloc (Nat.le_refl _) _).drew.trans (B2.mono (by simp))).alloc (by omega) _).trans (B3.mono (by simp; omega))
        | exact (((((Below.refl _ _).alloc (Nat.le_refl _) _).alloc (by simp) _).drew.trans (B2.mono (by simp; omega))).trans (B3.mono (by omega)))
    have BF := hide (BW.out.trans (BT.mono BW.out.size))
    clear q20 q21 q22 q23 q24 q25 q30 q31 q32 q33 q34 q35 hc2 hf2 hc3 hf3 B2 B3 z2 z3 c0 c1 c2 c3 c4 c5 BT
    obtain ⟨cap, w4, hcv4, hrow, B4⟩ := hcv.out w3
    have HR := hide hrow
    have H4 := hide B4
    clear hrow B4
    go_wp2
    have hB4 : Below w.heap.size w w4 := BF.out.trans (H4.out.mono BF.out.size)
    refine bodyPost_ret (v := .tuple #[.int .i64 23, .slice (some ⟨w3.heap.size, 0, none⟩) 13 cap, .int .i64 0]) (by simp [results, Tryd.results8, go_sem]) rfl ⟨_, _, rfl, ⟨HR.out.src, Nat.le_trans BF.out.size HR.out.lo, HR.out.hi, HR.out.fz⟩, hB4⟩

set_option maxRecDepth 100000 in
set_option maxHeartbeats 8000000 in
theorem put_gen4 (t : Int) (y m q h i s : Nat) (hy : y ≤ 100000 ∧ m ≤ 100000 ∧ q ≤ 100000 ∧ h ≤ 100000 ∧ i ≤ 100000 ∧ s ≤ 100000) (hY : (2049 : Int) < y) (w : World)
    (C1 : Calls Tryd.prog 10 #[.int .i64 t] w fun e w' => e = .returned (.tuple #[agg6 y m q h i s, .int .i64 0]) ∧ Below w.heap.size w w') :
    Calls Tryd.prog 8 #[.int .i64 t] w fun e w' => ∃ g cap, e = .returned (.tuple #[.int .i64 24, .slice (some ⟨g, 0, none⟩) 15 cap, .int .i64 0]) ∧ RowB w' w.heap.size g 15 cap (conV 4 y m q h i s) ∧ Below w.heap.size w w' := by
  have C1 := hide C1
  unfold agg6 at C1
  have yw := hide (fun W => yearWidth_4 W)
  have d1 : Hid (∀ (W : World) (b : Nat), b < W.heap.size → W.cell? ⟨b, 0, none⟩ = some (.int .i64 (y : Int)) → Calls Tryd.prog 18 #[.int .i64 4, .string ⟨#[]⟩, .slice (some ⟨b, 0, none⟩) 1 1] W fun e w' => e = .returned (.string (strOfNums (joinI 4 [] [y]))) ∧ Below W.heap.size W w') :=
    fun W b hb hc => digits_4 [] (by simp) b [y] 1 rfl (by omega) (by omega) (by simp; omega) W (fun k hk => by
      match k, hk with
      | 0, _ => exact hc) hb
  have d2 : Hid (∀ (W : World) (b : Nat), b < W.heap.size → W.cell? ⟨b, 0, none⟩ = some (.int .i64 (m : Int)) → W.cell? ⟨b, 1, none⟩ = some (.int .i64 (q : Int)) → W.cell? ⟨b, 2, none⟩ = some (.int .i64 (h : Int)) → W.cell? ⟨b, 3, none⟩ = some (.int .i64 (i : Int)) → W.cell? ⟨b, 4, none⟩ = some (.int .i64 (s : Int)) → Calls Tryd.prog 18 #[.int .i64 2, .string ⟨#[]⟩, .slice (some ⟨b, 0, none⟩) 5 5] W fun e w' => e = .returned (.string (strOfNums (joinI 2 [] [m, q, h, i, s]))) ∧ Below W.heap.size W w') :=
    fun W b hb x0 x1 x2 x3 x4 => digits_2 [] (by simp) b [m, q, h, i, s] 5 rfl (by omega) (by omega) (by simp; omega) W (fun k hk => by
      match k, hk with
      | 0, _ => exact x0
      | 1, _ => exact x1
      | 2, _ => exact x2
      | 3, _ => exact x3
      | 4, _ => exact x4) hb
  rw [dig1] at d1
  rw [dig5] at d2
  have a1 : strOfNums (dg 4 y) ++ strOfNums (dg 2 m ++ (dg 2 q ++ (dg 2 h ++ (dg 2 i ++ dg 2 s)))) = strOfNums (dg 4 y ++ (dg 2 m ++ (dg 2 q ++ (dg 2 h ++ (dg 2 i ++ dg 2 s))))) := strOf_append _ _
  have a2 : strOfNums (dg 4 y ++ (dg 2 m ++ (dg 2 q ++ (dg 2 h ++ (dg 2 i ++ dg 2 s))))) ++ (⟨#[90]⟩ : ByteArray) = strOfNums (conV 4 y m q h i s) := strOf_append _ [90]
  have z1 : (strOfNums (dg 4 y)).size = 4 := by rw [strOfNums_size, dg_len]
  have z2' : (strOfNums (dg 2 m ++ (dg 2 q ++ (dg 2 h ++ (dg 2 i ++ dg 2 s))))).size = 10 := by simp [strOfNums_size, dg_len]
  have z3' : (strOfNums (dg 4 y ++ (dg 2 m ++ (dg 2 q ++ (dg 2 h ++ (dg 2 i ++ dg 2 s)))))).size = 14 := by simp [strOfNums_size, dg_len]
  have hcv : Hid (∀ W, ∃ cap w', (convert 9 22 (.string (strOfNums (conV 4 y m q h i s)))).run Tryd.prog W = .ok (.slice (some ⟨W.heap.size, 0, none⟩) 15 cap) w' ∧ RowB w' W.heap.size W.heap.size 15 cap (conV 4 y m q h i s) ∧ Below W.heap.size W w') := by
    intro W
    have := bytes_of W (conV 4 y m q h i s) (conV_byte 4 y m q h i s) (by rw [conV_len]; omega)
    rw [conV_len] at this
    exact this
  generalize conV 4 y m q h i s = XS at *
  generalize strOfNums XS = T4 at *
  generalize strOfNums (dg 4 y ++ (dg 2 m ++ (dg 2 q ++ (dg 2 h ++ (dg 2 i ++ dg 2 s))))) = T3 at *
  generalize strOfNums (dg 2 m ++ (dg 2 q ++ (dg 2 h ++ (dg 2 i ++ dg 2 s)))) = T2 at *
  generalize strOfNums (dg 4 y) = T1 at *
  have n1 : ¬ 9223372036854775807 < T1.size + T2.size := by omega
  have n2 : ¬ 9223372036854775807 < T3.size + 1 := by omega
  clear z1 z2' z3' hy
  go_enter Tryd.func8, Tryd.ntmps8
  go_wp2_with fail
  refine C1.out.mono ?_
  rintro e w1 ⟨rfl, B1⟩
  have K1 := Six.new w1 34 y m q h i s rfl
  have BW : Hid (Below w.heap.size w (w1.alloc (.cells #[.int .i64 y, .int .i64 m, .int .i64 q, .int .i64 h, .int .i64 i, .int .i64 s] 34))) := B1.alloc B1.size _
  go_wp2
  have hlt : w1.heap.size < (w1.alloc (.cells #[.int .i64 y, .int .i64 m, .int .i64 q, .int .i64 h, .int .i64 i, .int .i64 s] 34)).heap.size := by simp
  generalize w1.alloc (.cells #[.int .i64 y, .int .i64 m, .int .i64 q, .int .i64 h, .int .i64 i, .int .i64 s] 34) = W0 at *
  generalize w1.heap.size = g at *
  have HK := hide K1
  obtain ⟨c0, c1, c2, c3, c4, c5⟩ := K1
  clear B1
  go_region_held3 (fun W => W.cell? ⟨g, 0, none⟩ = some (.int .i64 y) ∧ W.cell? ⟨g, 1, none⟩ = some (.int .i64 m) ∧ W.cell? ⟨g, 2, none⟩ = some (.int .i64 q) ∧ W.cell? ⟨g, 3, none⟩ = some (.int .i64 h) ∧ W.cell? ⟨g, 4, none⟩ = some (.int .i64 i) ∧ W.cell? ⟨g, 5, none⟩ = some (.int .i64 s)) (first | exact ⟨by assumption, by assumption, by assumption, by assumption, by assumption, by assumption⟩ | go_keep) (first | (go_at_call 13; refine (yw.out _).mono ?_; rintro e w0 ⟨rfl, hw⟩; have hw2 := hw.symm; subst hw2) | (go_at_call_of 18 (5 : Nat); refine (d2.out _ _ ?_ ?_ ?_ ?_ ?_ ?_).mono ?_; exact (by first | omega | (simp; omega) | simp); exact (by first | assumption | (simp; done) | exact (hc2 _ _ (by first | (simp; done) | (simp; omega))).trans (by simp)); exact (by first | assumption | (simp; done) | exact (hc2 _ _ (by first | (simp; done) | (simp; omega))).trans (by simp)); exact (by first | assumption | (simp; done) | exact (hc2 _ _ (by first | (simp; done) | (simp; omega))).trans (by simp)); exact (by first | assumption | (simp; done) | exact (hc2 _ _ (by first | (simp; done) | (simp; omega))).trans (by simp)); exact (by first | assumption | (simp; done) | exact (hc2 _ _ (by first | (simp; done) | (simp; omega))).trans (by simp)); rintro e w3 ⟨rfl, B3⟩; obtain ⟨hc3, hf3⟩ := bcell B3; have z3 := B3.size; (try simp at z3); have q30 := (hc3 g 0 (Nat.lt_of_lt_of_le hlt (by first | omega | (simp; omega) | simp))).trans (show _ = some (Value.int IntKind.i64 y) by first | assumption | simp [*]); have q31 := (hc3 g 1 (Nat.lt_of_lt_of_le hlt (by first | omega | (simp; omega) | simp))).trans (show _ = some (Value.int IntKind.i64 m) by first | assumption | simp [*]); have q32 := (hc3 g 2 (Nat.lt_of_lt_of_le hlt (by first | omega | (simp; omega) | simp))).trans (show _ = some (Value.int IntKind.i64 q) by first | assumption | simp [*]); have q33 := (hc3 g 3 (Nat.lt_of_lt_of_le hlt (by first | omega | (simp; omega) | simp))).trans (show _ = some (Value.int IntKind.i64 h) by first | assumption | simp [*]); have q34 := (hc3 g 4 (Nat.lt_of_lt_of_le hlt (by first | omega | (simp; omega) | simp))).trans (show _ = some (Value.int IntKind.i64 i) by first | assumption | simp [*]); have q35 := (hc3 g 5 (Nat.lt_of_lt_of_le hlt (by first | omega | (simp; omega) | simp))).trans (show _ = some (Value.int IntKind.i64 s) by first | assumption | simp [*])) | (go_at_call_of 18 (1 : Nat); refine (d1.out _ _ ?_ ?_).mono ?_; exact (by first | omega | (simp; omega) | simp); exact (by first | assumption | simp [*]); rintro e w2 ⟨rfl, B2⟩; obtain ⟨hc2, hf2⟩ := bcell B2; have z2 := B2.size; (try simp at z2); have q20 := (hc2 g 0 (Nat.lt_of_lt_of_le hlt (by first | omega | (simp; omega) | simp))).trans (show _ = some (Value.int IntKind.i64 y) by first | assumption | simp [*]); have q21 := (hc2 g 1 (Nat.lt_of_lt_of_le hlt (by first | omega | (simp; omega) | simp))).trans (show _ = some (Value.int IntKind.i64 m) by first | assumption | simp [*]); have q22 := (hc2 g 2 (Nat.lt_of_lt_of_le hlt (by first | omega | (simp; omega) | simp))).trans (show _ = some (Value.int IntKind.i64 q) by first | assumption | simp [*]); have q23 := (hc2 g 3 (Nat.lt_of_lt_of_le hlt (by first | omega | (simp; omega) | simp))).trans (show _ = some (Value.int IntKind.i64 h) by first | assumption | simp [*]); have q24 := (hc2 g 4 (Nat.lt_of_lt_of_le hlt (by first | omega | (simp; omega) | simp))).trans (show _ = some (Value.int IntKind.i64 i) by first | assumption | simp [*]); have q25 := (hc2 g 5 (Nat.lt_of_lt_of_le hlt (by first | omega | (simp; omega) | simp))).trans (show _ = some (Value.int IntKind.i64 s) by first | assumption | simp [*])))
  all_goals
    have BT : Below W0.heap.size W0 w3 := by
      first
        | exact ((((Below.refl _ _).alloc (Nat.le_refl _) _).drew.trans (B2.mono (by simp))).alloc (by omega) _).trans (B3.mono (by simp; omega))
        | exact (((((Below.refl _ _).alloc (Nat.le_refl _) _).alloc (by simp) _).drew.trans (B2.mono (by simp; omega))).trans (B3.mono (by omega)))
    have BF := hide (BW.out.trans (BT.mono BW.out.size))
    clear q20 q21 q22 q23 q24 q25 q30 q31 q32 q33 q34 q35 hc2 hf2 hc3 hf3 B2 B3 z2 z3 c0 c1 c2 c3 c4 c5 BT
    obtain ⟨cap, w4, hcv4, hrow, B4⟩ := hcv.out w3
    have HR := hide hrow
    have H4 := hide B4
    clear hrow B4
    go_wp2
    have hB4 : Below w.heap.size w w4 := BF.out.trans (H4.out.mono BF.out.size)
    refine bodyPost_ret (v := .tuple #[.int .i64 24, .slice (some ⟨w3.heap.size, 0, none⟩) 15 cap, .int .i64 0]) (by simp [results, Tryd.results8, go_sem]) rfl ⟨_, _, rfl, ⟨HR.out.src, Nat.le_trans BF.out.size HR.out.lo, HR.out.hi, HR.out.fz⟩, hB4⟩

set_option maxRecDepth 100000 in
theorem put_no (t : Int) (h : ¬ isT t) (w : World) :
    Calls Tryd.prog 8 #[.int .i64 t] w fun e w' => e = .returned (.tuple #[.int .i64 0, .slice none 0 0, .int .i64 40]) ∧ Below w.heap.size w w' := by
  have C1 := hide (civil_no t h)
  unfold civ0 at C1
  go_enter Tryd.func8, Tryd.ntmps8
  go_wp2_with fail
  refine (C1.out _).mono ?_
  rintro e w1 ⟨rfl, B1⟩
  go_wp2
  exact bodyPost_ret (v := .tuple #[.int .i64 0, .slice none 0 0, .int .i64 40]) (by simp [results, Tryd.results8, go_sem]) rfl ⟨rfl, B1.alloc B1.size _⟩

end Go.Proofs.YtnpimjfdidbdfabDoor
