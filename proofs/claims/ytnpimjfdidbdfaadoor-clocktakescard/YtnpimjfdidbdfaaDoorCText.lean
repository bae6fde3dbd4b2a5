/-
  clock.Text.
-/
import Derived.Test.YtnpimjfdidbdfaaDoorCDig
import Derived.Test.YtnpimjfdidbdfaaDoorCCivil
import Derived.Test.YtnpimjfdidbdfaaDoorCSix
import Derived.Deep.RegionHeld3
namespace Go.Proofs.YtnpimjfdidbdfaaDoor
open Go.RowKit

/-- A time in the calendar as a text. -/
def txtV (y m q h i s : Nat) : List Int := dg 4 y ++ [45] ++ (dg 2 m ++ ([45] ++ dg 2 q)) ++ [32] ++ (dg 2 h ++ ([58] ++ dg 2 i ++ ([58] ++ dg 2 s)))

theorem dig1 (k : Nat) (sep : List Int) (x : Nat) : joinI k sep [x] = dg k x := by simp [joinI]
theorem dig2 (k : Nat) (sep : List Int) (x y : Nat) : joinI k sep [x, y] = dg k x ++ (sep ++ dg k y) := by simp [joinI]
theorem dig3 (k : Nat) (sep : List Int) (x y z : Nat) : joinI k sep [x, y, z] = dg k x ++ (sep ++ dg k y ++ (sep ++ dg k z)) := by simp [joinI]

theorem strOf_sz (xs : List Int) (A : ByteArray) (h : strOfNums xs = A) : A.size = xs.length := by rw [← h, strOfNums_size]

theorem txt_size (T : ByteArray) (xs : List Int) (n : Nat) (h : T = strOfNums xs) (hl : xs.length = n) : T.size = n := by rw [h, strOfNums_size, hl]

set_option maxRecDepth 100000 in
set_option maxHeartbeats 4000000 in
theorem text_gen (t : Int) (y m q h i s : Nat) (hy : y ≤ 100000 ∧ m ≤ 100000 ∧ q ≤ 100000 ∧ h ≤ 100000 ∧ i ≤ 100000 ∧ s ≤ 100000) (w : World)
    (C1 : Calls Tryd.prog 9 #[.int .i64 t] w fun e w' => e = .returned (.tuple #[agg6 y m q h i s, .int .i64 0]) ∧ Below w.heap.size w w') :
    Calls Tryd.prog 11 #[.int .i64 t] w fun e w' => e = .returned (.tuple #[.string (strOfNums (txtV y m q h i s)), .int .i64 0]) ∧ Below w.heap.size w w' := by
  have C1 := hide C1
  unfold agg6 at C1
  have d1 : Hid (∀ (W : World) (b : Nat), b < W.heap.size → W.cell? ⟨b, 0, none⟩ = some (.int .i64 (y : Int)) → Calls Tryd.prog 32 #[.int .i64 4, .string ⟨#[]⟩, .slice (some ⟨b, 0, none⟩) 1 1] W fun e w' => e = .returned (.string (strOfNums (joinI 4 [] [y]))) ∧ Below W.heap.size W w') :=
    fun W b hb hc => digits_4 [] (by simp) b [y] 1 rfl (by omega) (by omega) (by simp; omega) W (fun k hk => by
      match k, hk with
      | 0, _ => exact hc) hb
  have d2 : Hid (∀ (W : World) (b : Nat), b < W.heap.size → W.cell? ⟨b, 0, none⟩ = some (.int .i64 (m : Int)) → W.cell? ⟨b, 1, none⟩ = some (.int .i64 (q : Int)) → Calls Tryd.prog 32 #[.int .i64 2, .string ⟨#[45]⟩, .slice (some ⟨b, 0, none⟩) 2 2] W fun e w' => e = .returned (.string (strOfNums (joinI 2 [45] [m, q]))) ∧ Below W.heap.size W w') :=
    fun W b hb hc hc' => digits_2 [45] (by simp) b [m, q] 2 rfl (by omega) (by omega) (by simp; omega) W (fun k hk => by
      match k, hk with
      | 0, _ => exact hc
      | 1, _ => exact hc') hb
  have d3 : Hid (∀ (W : World) (b : Nat), b < W.heap.size → W.cell? ⟨b, 0, none⟩ = some (.int .i64 (h : Int)) → W.cell? ⟨b, 1, none⟩ = some (.int .i64 (i : Int)) → W.cell? ⟨b, 2, none⟩ = some (.int .i64 (s : Int)) → Calls Tryd.prog 32 #[.int .i64 2, .string ⟨#[58]⟩, .slice (some ⟨b, 0, none⟩) 3 3] W fun e w' => e = .returned (.string (strOfNums (joinI 2 [58] [h, i, s]))) ∧ Below W.heap.size W w') :=
    fun W b hb hc hc' hc'' => digits_2 [58] (by simp) b [h, i, s] 3 rfl (by omega) (by omega) (by simp; omega) W (fun k hk => by
      match k, hk with
      | 0, _ => exact hc
      | 1, _ => exact hc'
      | 2, _ => exact hc'') hb
  rw [dig1] at d1
  rw [dig2] at d2
  rw [dig3] at d3
  have a1 : strOfNums (dg 4 y) ++ (⟨#[45]⟩ : ByteArray) = strOfNums (dg 4 y ++ [45]) := strOf_append _ [45]
  have a2 : strOfNums (dg 4 y ++ [45]) ++ strOfNums (dg 2 m ++ ([45] ++ dg 2 q)) = strOfNums (dg 4 y ++ [45] ++ (dg 2 m ++ ([45] ++ dg 2 q))) := strOf_append _ _
  have a3 : strOfNums (dg 4 y ++ [45] ++ (dg 2 m ++ ([45] ++ dg 2 q))) ++ (⟨#[32]⟩ : ByteArray) = strOfNums (dg 4 y ++ [45] ++ (dg 2 m ++ ([45] ++ dg 2 q)) ++ [32]) := strOf_append _ [32]
  have a4 : strOfNums (dg 4 y ++ [45] ++ (dg 2 m ++ ([45] ++ dg 2 q)) ++ [32]) ++ strOfNums (dg 2 h ++ ([58] ++ dg 2 i ++ ([58] ++ dg 2 s))) = strOfNums (txtV y m q h i s) := strOf_append _ _
  have z1 : (strOfNums (dg 4 y)).size = 4 := by rw [strOfNums_size, dg_len]
  have z2 : (strOfNums (dg 4 y ++ [45])).size = 5 := by simp [strOfNums_size, dg_len]
  have z3 : (strOfNums (dg 2 m ++ ([45] ++ dg 2 q))).size = 5 := by simp [strOfNums_size, dg_len]
  have z4 : (strOfNums (dg 4 y ++ [45] ++ (dg 2 m ++ ([45] ++ dg 2 q)))).size = 10 := by simp [strOfNums_size, dg_len]
  have z5 : (strOfNums (dg 4 y ++ [45] ++ (dg 2 m ++ ([45] ++ dg 2 q)) ++ [32])).size = 11 := by simp [strOfNums_size, dg_len]
  have z6 : (strOfNums (dg 2 h ++ ([58] ++ dg 2 i ++ ([58] ++ dg 2 s)))).size = 8 := by simp [strOfNums_size, dg_len]
  generalize strOfNums (txtV y m q h i s) = T7 at *
  generalize strOfNums (dg 2 h ++ ([58] ++ dg 2 i ++ ([58] ++ dg 2 s))) = T6 at *
  generalize strOfNums (dg 4 y ++ [45] ++ (dg 2 m ++ ([45] ++ dg 2 q)) ++ [32]) = T5 at *
  generalize strOfNums (dg 4 y ++ [45] ++ (dg 2 m ++ ([45] ++ dg 2 q))) = T4 at *
  generalize strOfNums (dg 2 m ++ ([45] ++ dg 2 q)) = T3 at *
  generalize strOfNums (dg 4 y ++ [45]) = T2 at *
  generalize strOfNums (dg 4 y) = T1 at *
  have n1 : ¬ 9223372036854775807 < T1.size + 1 := by omega
  have n2 : ¬ 9223372036854775807 < T2.size + T3.size := by omega
  have n3 : ¬ 9223372036854775807 < T4.size + 1 := by omega
  have n4 : ¬ 9223372036854775807 < T5.size + T6.size := by omega
  clear z1 z2 z3 z4 z5 z6 hy
  go_enter Tryd.func11, Tryd.ntmps11
  go_wp2_with fail
  refine C1.out.mono ?_
  rintro e w1 ⟨rfl, B1⟩
  have K1 := Six.new w1 23 y m q h i s rfl
  have BW : Hid (Below w.heap.size w (w1.alloc (.cells #[.int .i64 y, .int .i64 m, .int .i64 q, .int .i64 h, .int .i64 i, .int .i64 s] 23))) := B1.alloc B1.size _
  go_wp2
  have hlt : w1.heap.size < (w1.alloc (.cells #[.int .i64 y, .int .i64 m, .int .i64 q, .int .i64 h, .int .i64 i, .int .i64 s] 23)).heap.size := by simp
  generalize w1.alloc (.cells #[.int .i64 y, .int .i64 m, .int .i64 q, .int .i64 h, .int .i64 i, .int .i64 s] 23) = W0 at *
  generalize w1.heap.size = g at *
  have HK := hide K1
  obtain ⟨c0, c1, c2, c3, c4, c5⟩ := K1
  clear B1
  go_region_held3 (fun W => W.cell? ⟨g, 0, none⟩ = some (.int .i64 y) ∧ W.cell? ⟨g, 1, none⟩ = some (.int .i64 m) ∧ W.cell? ⟨g, 2, none⟩ = some (.int .i64 q)) (first | exact ⟨by assumption, by assumption, by assumption⟩ | go_keep) (first | (go_at_call_of 32 (Value.int .i64 4); refine (d1.out _ _ ?_ ?_).mono ?_; exact (by first | omega | (simp; omega) | simp); exact (by first | assumption | simp [*]); rintro e w2 ⟨rfl, B2⟩; obtain ⟨hc2, hf2⟩ := bcell B2; have z2 := B2.size; (try simp at z2); have q20 := (hc2 g 0 (Nat.lt_of_lt_of_le hlt (by first | omega | (simp; omega) | simp))).trans (show _ = some (Value.int IntKind.i64 y) by first | assumption | simp [*]); have q21 := (hc2 g 1 (Nat.lt_of_lt_of_le hlt (by first | omega | (simp; omega) | simp))).trans (show _ = some (Value.int IntKind.i64 m) by first | assumption | simp [*]); have q22 := (hc2 g 2 (Nat.lt_of_lt_of_le hlt (by first | omega | (simp; omega) | simp))).trans (show _ = some (Value.int IntKind.i64 q) by first | assumption | simp [*])) | (go_at_call_of 32 (Value.int .i64 2); refine (d2.out _ _ ?_ ?_ ?_).mono ?_; exact (by first | omega | (simp; omega) | simp); exact (by first | assumption | (simp; done) | exact (hc2 _ _ (by first | (simp; done) | (simp; omega))).trans (by simp)); exact (by first | assumption | (simp; done) | exact (hc2 _ _ (by first | (simp; done) | (simp; omega))).trans (by simp)); rintro e w3 ⟨rfl, B3⟩; obtain ⟨hc3, hf3⟩ := bcell B3; have z3 := B3.size; (try simp at z3); have q30 := (hc3 g 0 (Nat.lt_of_lt_of_le hlt (by first | omega | (simp; omega) | simp))).trans (show _ = some (Value.int IntKind.i64 y) by first | assumption | simp [*]); have q31 := (hc3 g 1 (Nat.lt_of_lt_of_le hlt (by first | omega | (simp; omega) | simp))).trans (show _ = some (Value.int IntKind.i64 m) by first | assumption | simp [*]); have q32 := (hc3 g 2 (Nat.lt_of_lt_of_le hlt (by first | omega | (simp; omega) | simp))).trans (show _ = some (Value.int IntKind.i64 q) by first | assumption | simp [*])))
  all_goals
    have BT : Below W0.heap.size W0 w3 := by
      first
        | exact ((((Below.refl _ _).alloc (Nat.le_refl _) _).drew.trans (B2.mono (by simp))).alloc (by omega) _).trans (B3.mono (by simp; omega))
        | exact (((((Below.refl _ _).alloc (Nat.le_refl _) _).alloc (by simp) _).drew.trans (B2.mono (by simp; omega))).trans (B3.mono (by omega)))
    have K3 := HK.out.below BT hlt
    have BF := hide (BW.out.trans (BT.mono BW.out.size))
    clear q20 q21 q22 q30 q31 q32 hc2 hf2 hc3 hf3 B2 B3 z2 z3 c0 c1 c2 c3 c4 c5 BT
    obtain ⟨c0, c1, c2, c3, c4, c5⟩ := K3
    go_wp2_with (go_at_call 32; refine (d3.out _ _ ?_ ?_ ?_ ?_).mono ?_; exact (by simp); exact (by simp); exact (by simp); exact (by simp); rintro e w4 ⟨rfl, B4⟩)
    go_ret2
    exact ⟨rfl, (BF.out.alloc BF.out.size _).trans (B4.mono (by have := BF.out.size; simp; omega))⟩

end Go.Proofs.YtnpimjfdidbdfaaDoor
