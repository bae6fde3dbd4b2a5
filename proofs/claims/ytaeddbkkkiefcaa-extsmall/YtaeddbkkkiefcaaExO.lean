/-
  The statements' own calls is, own.
-/
import Derived.Test.YtaeddbkkkiefcaaExE
namespace Go.Proofs.Ytaeddbkkkiefcaa
open Go.RowKit Go.IntWalk

set_option maxRecDepth 100000 in
set_option maxHeartbeats 1000000 in
theorem is15_any (ax : Option Addr) (nx cx : Nat) (az : Option Addr) (nz cz : Nat) (xs : List Int) (e : Int) (w : World) (hx : Src w ax nx cx xs) (hz : Src w az nz cz xs) :
    Calls Try.prog 38 #[.slice ax nx cx, .int .i64 e, .slice az nz cz, .int .i64 e] w fun e w' => e = .returned (.bool true) ∧ w' = w := by
  have t1 := hx.text
  have t2 := hz.text
  go_enter Try.func38, Try.ntmps38
  go_wp2
  go_ret
  exact ⟨rfl, rfl⟩

set_option maxRecDepth 100000 in
set_option maxHeartbeats 1000000 in
theorem own15_row (bx g n cx : Nat) (xs : List Int) (ay : Option Addr) (ny cy : Nat) (az : Option Addr) (nz cz : Nat) (e : Int) (w : World) (hb : ∀ x ∈ xs, 0 ≤ x ∧ x < 256) (ho : OwnB w bx (.slice (some ⟨g, 0, none⟩) n cx) xs)
    (hy : ∀ W, w.grownBy W (some g) → Src W ay ny cy xs) (hz : ∀ W, w.grownBy W (some g) → Src W az nz cz xs) (hn : n ≤ 140737488355000) :
    Calls Try.prog 7 #[.slice (some ⟨g, 0, none⟩) n cx, .slice ay ny cy, .int .i64 e, .slice az nz cz, .int .i64 e] w fun e w' => e = .returned (.bool true) ∧ w.grownBy w' (some g) := by
  have hx := ho.toSrc hb
  have h1 := hide (is15_any _ _ _ _ _ _ xs e w hx (hz w (World.grownBy.refl _ _)))
  have HL := hide hx.hlen
  have hnc := hx.hcap
  have hmc := hx.hmax
  unfold maxLen at hmc
  have t3 := hide (fun u hu => (hy u hu).text)
  have t4 := hide (fun u hu => (hz u hu).text)
  clear hx hb hy hz
  go_enter Try.func7, Try.ntmps7
  go_wp2_with fail
  refine h1.out.mono ?_
  rintro e w1 ⟨rfl, rfl⟩
  clear h1
  go_wp2
  go_loopw [11] (fun i wr => ∃ (k : Nat) (ys : List Int), k ≤ n ∧ i = .int .i64 k ∧ Hid (ys.length = n) ∧ OwnB wr bx (.slice (some ⟨g, 0, none⟩) n cx) ys ∧ w1.grownBy wr (some g)) (fun i _ => n - (intOf i).toNat)
  case atStart => exact ⟨0, xs, Nat.zero_le _, rfl, HL, ho, World.grownBy.refl _ _⟩
  case round =>
    obtain ⟨k, ys, hk, rfl, HLY, hoy, hg⟩ := hrel
    by_cases hlt : k < n
    · have ltI : (k : Int) < (n : Int) := by omega
      have hcell := hoy.cell k (by have := HLY.out; omega)
      have hfr := hoy.frozen k
      have hst := hide (fun u => hoy.stored k u)
      go_wp2
      go_roundw
      case rel => exact ⟨k + 1, ys.set k _, by omega, by go_num, by rw [Hid, List.length_set]; exact HLY.out, (hst.out _).1, grown_trans hg (hst.out _).2⟩
      case measure => simp [intOf]; omega
    · obtain rfl : k = n := by omega
      have nI : ¬ ((k : Int) < (k : Int)) := by omega
      have T3 := t3.out wr hg
      have T4 := t4.out wr hg
      go_wp2
      go_ret
      exact ⟨rfl, hg⟩

set_option maxRecDepth 100000 in
set_option maxHeartbeats 1000000 in
theorem own15_nil (ay : Option Addr) (ny cy : Nat) (az : Option Addr) (nz cz : Nat) (e : Int) (w : World) (hy : Src w ay ny cy []) (hz : Src w az nz cz []) :
    Calls Try.prog 7 #[.slice none 0 0, .slice ay ny cy, .int .i64 e, .slice az nz cz, .int .i64 e] w fun e w' => e = .returned (.bool true) ∧ w' = w := by
  have h1 := hide (is15_any none 0 0 az nz cz [] e w (src_nil w) hz)
  have t1 := hy.text
  have t2 := hz.text
  go_enter Try.func7, Try.ntmps7
  go_wp2_with fail
  refine h1.out.mono ?_
  rintro e w1 ⟨rfl, rfl⟩
  clear h1
  go_wp2
  refine wp_loop_rounds 1 ?_
  rw [rounds_succ]
  go_wp2
  go_ret
  exact ⟨rfl, rfl⟩

/-- 'own' of two answers alike. -/
theorem own15_any (bx by_ bz : Nat) (ax : Option Addr) (nx cx : Nat) (ay : Option Addr) (ny cy : Nat) (az : Option Addr) (nz cz : Nat) (xs : List Int) (e : Int) (w : World) (hb : ∀ x ∈ xs, 0 ≤ x ∧ x < 256) (hx : OwnB w bx (.slice ax nx cx) xs)
    (hy : OwnB w by_ (.slice ay ny cy) xs) (hz : OwnB w bz (.slice az nz cz) xs) (hxy : ∀ k, (Value.slice ax nx cx).ownBlock = some k → (Value.slice ay ny cy).ownBlock ≠ some k) (hxz : ∀ k, (Value.slice ax nx cx).ownBlock = some k → (Value.slice az nz cz).ownBlock ≠ some k) (hn : nx ≤ 140737488355000) :
    Calls Try.prog 7 #[.slice ax nx cx, .slice ay ny cy, .int .i64 e, .slice az nz cz, .int .i64 e] w fun e w' => e = .returned (.bool true) ∧ w.grownBy w' (Value.slice ax nx cx).ownBlock := by
  have far : ∀ (W : World) (b : Nat) (v : Value), OwnB w b v xs → (∀ k, (Value.slice ax nx cx).ownBlock = some k → v.ownBlock ≠ some k) → w.grownBy W (Value.slice ax nx cx).ownBlock → OwnB W b v xs := by
    intro W b v hv hl hg
    refine hv.kept hg ?_
    cases hv' : v.ownBlock with
    | none => exact .inl rfl
    | some j => exact .inr fun h => hl j h.symm hv'
  rcases OwnB.split hx with ⟨h1, h2⟩ | ⟨g, cap, h1, _⟩
  · cases h1
    subst h2
    refine (own15_nil ay ny cy az nz cz e w (hy.toSrc hb) (hz.toSrc hb)).mono ?_
    rintro e w' ⟨rfl, rfl⟩
    exact ⟨rfl, World.grownBy.refl _ _⟩
  · cases h1
    exact own15_row bx g _ _ xs ay ny cy az nz cz e w hb hx (fun W h => (far W _ _ hy hxy h).toSrc hb) (fun W h => (far W _ _ hz hxz h).toSrc hb) hn

theorem own_two {w w' : World} {b b' : Nat} {v v' : Value} {xs ys : List Int} (h : OwnB w b v xs) (h' : OwnB w' b' v' ys) (hb : w.heap.size ≤ b') : ∀ k, v.ownBlock = some k → v'.ownBlock ≠ some k := fun k hk hk' => by
  have h1 := (World.ownsRow.lt h k hk).2
  have h2 := (World.ownsRow.lt h' k hk').1
  omega

end Go.Proofs.Ytaeddbkkkiefcaa
