/-
  Digests compared; the statements' own plain call.
-/
import Derived.Test.YtgajejomibnghaaDoorSaMc
import Derived.Test.YtgajejomibnghaaDoorSaAbc
import Derived.Laws.StructEq
import Derived.Lib.SlBytesConst
namespace Go.Proofs.YtgajejomibnghaaDoor
open Go.RowKit Go.IntWalk

/-- Two digests compared, kept whole in the walk. -/
def eqD (x y : Value) : Sem Value := binOp .eql 26 x y
theorem eq_dig (x y : Value) : binOp .eql 26 x y = eqD x y := rfl
attribute [local go_sem ↓] ld_words ld_part ld_sched ld_hash ld_dig ld_arr st_words st_part st_sched st_hash st_dig st_arr ix_words bd_hash bd_keyed bd_dig eq_dig

theorem run_equalIn_same (d : Nat) (t e : TypeId) (n : Nat) (ht : Tryd.prog.underlying t = some (.array n e)) (he : Tryd.prog.underlying e = some (.int .u8)) (hsz : ∀ w, (sizeOf e).run Tryd.prog w = .ok 1 w) (xs : List Int) (hx : xs.length = n) (w : World) :
    (Op.equalIn (d + 2) t (.agg (xs.map (Value.int .u8)).toArray) (.agg (xs.map (Value.int .u8)).toArray)).run Tryd.prog w = .ok true w := by
  rw [Op.equalIn]
  simp only [Sem.run_bind, run_underlying ht, Result.andThen_ok, hsz, Std.Legacy.Range.forIn_eq_forIn_range', Std.Legacy.Range.size, Nat.sub_zero, Nat.add_sub_cancel, Nat.div_one]
  have hl : ∀ i ∈ List.range' 0 n 1, i < n := fun i hi => by simpa using (List.mem_range'_1.1 hi).2
  generalize List.range' 0 n 1 = l at hl ⊢
  induction l with
  | nil => simp
  | cons i l ih =>
    have hi : i < n := hl i (by simp)
    have px : (part e (xs.map (Value.int .u8)).toArray (i * 1)).run Tryd.prog w = .ok (.int .u8 (xs.getD i 0)) w := by
      simp [part, isAgg, run_underlying he, List.getD, List.getElem?_eq_getElem (show i < xs.length by omega)]
    have pe : (Op.equalIn (d + 1) e (.int .u8 (xs.getD i 0)) (.int .u8 (xs.getD i 0))).run Tryd.prog w = .ok true w := by
      rw [run_equalIn_int w d e .u8 .u8 _ _ he]
      simp
    simp only [List.forIn_cons, Sem.run_bind, px, pe, Result.andThen_ok]
    simp only [Bool.not_true, Bool.false_eq_true, if_false, Sem.run_pure, Result.andThen_ok]
    exact ih fun j hj => hl j (by simp [hj])

theorem eqD_same (xs : List Int) (hx : xs.length = 32) (w : World) : (eqD (.agg (xs.map (Value.int .u8)).toArray) (.agg (xs.map (Value.int .u8)).toArray)).run Tryd.prog w = .ok (.bool true) w := by
  unfold eqD
  rw [run_eql_struct, run_equalIn_same 9998 26 5 32 Tryd.underlying26 Tryd.underlying5 (fun w => by kernel_rfl) xs hx w]
  rfl

theorem Pcs0.one {w : World} {b off : Nat} {a : Option Addr} {n c : Nat} {xs : List Int} (hc : w.cell? ⟨b, off, none⟩ = some (.slice a n c)) (hs : SrcG .u8 256 w a n c xs) : Pcs0 w (some ⟨b, off, none⟩) 1 [xs] := by
  refine ⟨rfl, fun _ => ⟨b, off, rfl, fun i hi => ?_⟩⟩
  obtain rfl : i = 0 := by omega
  exact ⟨a, n, c, hc, hs⟩

/-- sha.Sum of one piece in a row of its own. -/
theorem sum_one (b : Nat) (a : Option Addr) (n c : Nat) (xs : List Int) (w : World) (hc : w.cell? ⟨b, 0, none⟩ = some (.slice a n c)) (hs : SrcG .u8 256 w a n c xs) (hn : n ≤ 140737488355328) (hT : Tabs w) :
    Calls Tryd.prog 8 #[.slice (some ⟨b, 0, none⟩) 1 1] w fun e w' => e = .returned (.agg ((dig xs).map (Value.int .u8)).toArray) ∧ Below w.heap.size w w' := by
  have h := sum_any (some ⟨b, 0, none⟩) 1 1 [xs] w (Pcs0.one hc hs) hT (by have := hs.hlen; simp; omega) (by omega)
  simpa using h

theorem mac_one (a : Option Addr) (n c : Nat) (key : List Int) (b : Nat) (a1 : Option Addr) (n1 c1 : Nat) (xs : List Int) (w : World) (hk : SrcG .u8 256 w a n c key) (hn : n ≤ 140737488355328) (hc : w.cell? ⟨b, 0, none⟩ = some (.slice a1 n1 c1)) (hs : SrcG .u8 256 w a1 n1 c1 xs) (hn1 : n1 ≤ 140737488355328) (hT : Tabs w) :
    Calls Tryd.prog 11 #[.slice a n c, .slice (some ⟨b, 0, none⟩) 1 1] w fun e w' => e = .returned (.agg ((macD key xs).map (Value.int .u8)).toArray) ∧ Below w.heap.size w w' := by
  have h := mac_any a n c key (some ⟨b, 0, none⟩) 1 1 [xs] w hk hn (Pcs0.one hc hs) hT (by have := hs.hlen; simp; omega) (by omega)
  simpa using h

theorem macD_len (key xs : List Int) : (macD key xs).length = 32 := dig_len _

end Go.Proofs.YtgajejomibnghaaDoor
