/-
  Digests compared; the statements' own plain call.
-/
import Derived.Test.YtfajdcomjcoclaaDoorSaMc
import Derived.Test.YtfajdcomjcoclaaDoorSaAbc
import Derived.Laws.StructEq
import Derived.Lib.SlBytesConst
namespace Go.Proofs.YtfajdcomjcoclaaDoor
open Go.RowKit Go.IntWalk

/-- Two digests compared, kept whole in the walk. -/
def eqD (x y : Value) : Sem Value := binOp .eql 26 x y
theorem eq_dig (x y : Value) : binOp .eql 26 x y = eqD x y := rfl
attribute [local go_sem ↓] ld_words ld_part ld_sched ld_hash ld_dig ld_arr st_words st_part st_sched st_hash st_dig st_arr ix_words bd_hash bd_keyed bd_dig eq_dig

theorem run_equalIn_same (d : Nat) (t e : TypeId) (n : Nat) (ht : Tryd.prog.underlying t = some (.array n e)) (he : Tryd.prog.underlying e = some (.int .u8)) (hsz : ∀ w, (sizeOf e).run Tryd.prog w = .ok 1 w) (xs : List Int) (hx : xs.length = n) (w : World) :
    (Op.equalIn (d + 2) t (.agg (xs.map (Value.int .u8)).toArray) (.agg (xs.map (Value.int .u8)).toArray)).run Tryd.prog w = .ok true w := by
  rw [Op.equalIn]
  simp only [Sem.run_bind, run_underlying ht, Result.andThen_ok, hsz, Std.Legacy.Range.forIn_eq_forIn_range', Std.Legacy.Range.size, Nat.sub_zero, Nat.add_sub_cancel, Nat.div_one]
  have hl : ∀ i ∈ List.range' 0 n 1, i < n := fun i hi => by simpa using (List.mem_range'_1.1 hi).2
  generalize List.range' 0 n 1 = l at hl ⊢
  induction l with
  | nil => simp
  | cons i l ih =>
    have hi : i < n := hl i (by simp)
    have px : (part e (xs.map (Value.int .u8)).toArray (i * 1)).run Tryd.prog w = .ok (.int .u8 (xs.getD i 0)) w := by
      simp [part, isAgg, run_underlying he, List.getD, List.getElem?_eq_getElem (show i < xs.length by omega)]
    have pe : (Op.equalIn (d + 1) e (.int .u8 (xs.getD i 0)) (.int .u8 (xs.getD i 0))).run Tryd.prog w = .ok true w := by
      rw [run_equalIn_int w d e .u8 .u8 _ _ he]
      simp
    simp only [List.forIn_cons, Sem.run_bind, px, pe, Result.andThen_ok]
    simp only [Bool.not_true, Bool.false_eq_true, if_false, Sem.run_pure, Result.andThen_ok]
    exact ih fun j hj => hl j (by simp [hj])

theorem eqD_same (xs : List Int) (hx : xs.length = 32) (w : World) : (eqD (.agg (xs.map (Value.int .u8)).toArray) (.agg (xs.map (Value.int .u8)).toArray)).run Tryd.prog w = .ok (.bool true) w := by
  unfold eqD
  rw [run_eql_struct, run_equalIn_same 9998 26 5 32 Tryd.underlying26 Tryd.underlying5 (fun w => by kernel_rfl) xs hx w]
  rfl

theorem Pcs0.one {w : World} {b off : Nat} {a : Option Addr} {n c : Nat} {xs : List Int} (hc : w.cell? ⟨b, off, none⟩ = some (.slice a n c)) (hs : SrcG .u8 256 w a n c xs) : Pcs0 w (some ⟨b, off, none⟩) 1 [xs] := by
  refine ⟨rfl, fun _ => ⟨b, off, rfl, fun i hi => ?_⟩⟩
  obtain rfl : i = 0 := by omega
  exact ⟨a, n, c, hc, hs⟩

/-- sha.Sum of one piece in a row of its own. -/
theorem sum_one (b : Nat) (a : Option Addr) (n c : Nat) (xs : List Int) (w : World) (hc : w.cell? ⟨b, 0, none⟩ = some (.slice a n c)) (hs : SrcG .u8 256 w a n c xs) (hn : n ≤ 140737488355328) (hT : Tabs w) :
    Calls Tryd.prog 10 #[.slice (some ⟨b, 0, none⟩) 1 1] w fun e w' => e = .returned (.agg ((dig xs).map (Value.int .u8)).toArray) ∧ Below w.heap.size w w' := by
  have h := sum_any (some ⟨b, 0, none⟩) 1 1 [xs] w (Pcs0.one hc hs) hT (by have := hs.hlen; simp; omega) (by omega)
  simpa using h

theorem mac_one (a : Option Addr) (n c : Nat) (key : List Int) (b : Nat) (a1 : Option Addr) (n1 c1 : Nat) (xs : List Int) (w : World) (hk : SrcG .u8 256 w a n c key) (hn : n ≤ 140737488355328) (hc : w.cell? ⟨b, 0, none⟩ = some (.slice a1 n1 c1)) (hs : SrcG .u8 256 w a1 n1 c1 xs) (hn1 : n1 ≤ 140737488355328) (hT : Tabs w) :
    Calls Tryd.prog 13 #[.slice a n c, .slice (some ⟨b, 0, none⟩) 1 1] w fun e w' => e = .returned (.agg ((macD key xs).map (Value.int .u8)).toArray) ∧ Below w.heap.size w w' := by
  have h := mac_any a n c key (some ⟨b, 0, none⟩) 1 1 [xs] w hk hn (Pcs0.one hc hs) hT (by have := hs.hlen; simp; omega) (by omega)
  simpa using h

theorem macD_len (key xs : List Int) : (macD key xs).length = 32 := dig_len _

set_option maxRecDepth 100000 in
set_option maxHeartbeats 2000000 in
theorem works_any (w : World) (hT : Tabs w) :
    Calls Tryd.prog 24 #[] w fun e w' => e = .returned (.bool true) ∧ Below w.heap.size w w' := by
  have HT := hide hT
  have HLt := hide hT.lt
  have hid : (Tryd.prog.info? 26).map (·.size) = some ((dig [97, 98, 99]).map (Value.int .u8)).length := by rw [List.length_map, dig_len]; exact info_dig
  have HID := hide hid
  have HA := hide dig_abc
  have hcv : (convert 22 22 (.slice (some ⟨w.heap.size, 0, none⟩) 3 3)).run Tryd.prog (w.alloc (.cells #[.int .u8 97, .int .u8 98, .int .u8 99] 5)) = .ok (.slice (some ⟨w.heap.size, 0, none⟩) 3 3) (w.alloc (.cells #[.int .u8 97, .int .u8 98, .int .u8 99] 5 (3, 4))) := Lib.run_convert_bytes_const (P := Tryd.prog) w 22 5 #[.int .u8 97, .int .u8 98, .int .u8 99] 3 3 Tryd.underlying22 Tryd.underlying5
  have hsrc : SrcG .u8 256 (w.alloc (.cells #[.int .u8 97, .int .u8 98, .int .u8 99] 5 (3, 4))) (some ⟨w.heap.size, 0, none⟩) 3 3 [97, 98, 99] := by
    have hh : (w.alloc (.cells #[.int .u8 97, .int .u8 98, .int .u8 99] 5 (3, 4))).heap[w.heap.size]? = some (.cells #[.int .u8 97, .int .u8 98, .int .u8 99] 5 (3, 4)) := (MapKept.heap_alloc w _).1
    refine ⟨rfl, Nat.le_refl _, by decide, by simp, fun _ => ⟨w.heap.size, 0, rfl, fun i hi => ?_⟩, by intro x hx; simp at hx; omega⟩
    rw [cell_of_row _ _ _ _ _ _ hh]
    have hi3 : i < 3 := hi
    rcases (show i = 0 ∨ i = 1 ∨ i = 2 by omega) with rfl | rfl | rfl <;> rfl
  have HSrc := hide hsrc
  clear hsrc
  clear hT hid
  go_enter Tryd.func24, Tryd.ntmps24
  go_wp2_with fail
  refine (sum_one (w.heap.size + 1) (some ⟨w.heap.size, 0, none⟩) 3 3 [97, 98, 99] ((w.alloc (.cells #[.int .u8 97, .int .u8 98, .int .u8 99] 5 (3, 4))).alloc (.cells #[.slice (some ⟨w.heap.size, 0, none⟩) 3 3] 22)) ((Blk.new (T := 22) _ [.slice (some ⟨w.heap.size, 0, none⟩) 3 3] _ _ rfl (by simp)).cell 0) (HSrc.out.alloc _) (by omega) (HT.out.below (((Below.refl _ _).alloc (Nat.le_refl _) _).alloc (by simp) _) HLt.out)).mono ?_
  rintro e w1 ⟨rfl, hB1⟩
  have HW1 : Hid (Below w.heap.size w w1) := (((Below.refl _ _).alloc (Nat.le_refl _) _).alloc (by simp) _).trans (hB1.mono (by simp; omega))
  have hst : ∀ c1 : Array Value, c1.size = 32 → (stA 26 (.pointer (some ⟨w1.heap.size, 0, none⟩)) (.agg ((dig [97, 98, 99]).map (Value.int .u8)).toArray)).run Tryd.prog (w1.alloc (.cells c1 26)) = .ok () (w1.alloc (.cells ((dig [97, 98, 99]).map (Value.int .u8)).toArray 26)) :=
    fun c1 hc => run_storeAt_new w1 _ c1 _ (by rw [List.size_toArray]; exact HID.out) (by rw [hc, List.size_toArray, List.length_map, dig_len]) (all_oneCell_toArray (ints_one _ _))
  have hB := Blk.new (T := 26) w1 ((dig [97, 98, 99]).map (Value.int .u8)) _ _ rfl rfl
  have c0 := hB.cell 0
  have c1 := hB.cell 1
  have c31 := hB.cell 31
  have e0 : ((dig [97, 98, 99]).map (Value.int .u8))[0]? = some (.int .u8 186) := by rw [HA.out]; rfl
  have e1 : ((dig [97, 98, 99]).map (Value.int .u8))[1]? = some (.int .u8 120) := by rw [HA.out]; rfl
  have e31 : ((dig [97, 98, 99]).map (Value.int .u8))[31]? = some (.int .u8 173) := by rw [HA.out]; rfl
  rw [e0] at c0
  rw [e1] at c1
  rw [e31] at c31
  generalize dig [97, 98, 99] = D at *
  clear hB1 e0 e1 e31 hB
  go_wp2
  go_ret
  exact ⟨rfl, HW1.out.alloc HW1.out.size _⟩

end Go.Proofs.YtfajdcomjcoclaaDoor
