/-
  nat.limb, nat.trim, nat.tooLong, cmp.Compare, nat.order, nat.Compare: what they say of any limbs; they write nothing.
-/
import Derived.Test.YtekhobmjjoegpaaDoorGRow2
import Derived.Test.YtekhobmjjoegpaaDoorChecked
import Derived.Deep.QuietTactic
import Derived.BigQuiet
namespace Go.Proofs.YtekhobmjjoegpaaDoor
open Go.RowKit Go.IntWalk

theorem Tryd.infoU : (Tryd.prog.info? 48).map (fun i => (i.zero, i.size, i.bytes)) = some (some (.int .u64 0), 1, 8) := by kernel_rfl
theorem Tryd.elemU : Tryd.prog.elem 24 = 48 := by kernel_rfl
theorem Tryd.sizeOfU (w : World) : (sizeOf 48).run Tryd.prog w = .ok 1 w := by kernel_rfl

theorem SrcG.dgAt {κ : IntKind} {B : Int} {w : World} {ao : Option Addr} {n cap : Nat} {xs : List Int} (h : SrcG κ B w ao n cap xs) (hB : 0 < B) (i : Nat) : 0 ≤ xs.getD i 0 ∧ xs.getD i 0 < B := h.hdg.at hB i

theorem SrcG.head {κ : IntKind} {B : Int} {w : World} {ao : Option Addr} {n c : Nat} {xs : List Int} (hs : SrcG κ B w ao n c xs) (h : Nat) (hh : h ≤ n) : SrcG κ B w ao h h (xs.take h) := by
  obtain ⟨h1, h2, h3, h4, h5, h6⟩ := hs
  refine ⟨by simp; omega, Nat.le_refl _, by omega, ?_, ?_, h6.take h⟩
  · intro hc
    have := h4 hc
    omega
  · intro hne
    obtain ⟨b, off, rfl, hc⟩ := h5 (by intro h'; simp [h'] at hne)
    refine ⟨b, off, rfl, fun i hi => ?_⟩
    simp at hi
    rw [hc i (by omega)]
    simp [List.getD, show i < h by omega]

theorem trm_stop {b : Int} (hb : 0 < b) {xs : List Int} (hx : Dg b xs) (k : Nat) (hv : val b (xs.take k) = val b xs) (hk : k ≤ xs.length) (h : k = 0 ∨ xs.getD (k - 1) 0 ≠ 0) : xs.take k = trm xs := by
  refine trm_of hb hx (hx.take k) ?_ hv
  intro hne
  rcases h with rfl | h
  · simp at hne
  · have hk0 : 0 < k := by rcases Nat.eq_zero_or_pos k with h' | h'; (subst h'; simp at hne); exact h'
    rw [List.length_take, Nat.min_eq_left hk, List.getD, List.getElem?_take, if_pos (by omega)]
    exact h

set_option maxRecDepth 100000 in
set_option maxHeartbeats 1000000 in
theorem trim_any (ao : Option Addr) (n cap : Nat) (xs : List Int) (w : World) (hs : SrcG .u64 18446744073709551616 w ao n cap xs) :
    Calls Tryd.prog 21 #[.slice ao n cap] w fun e w' => e = .returned (.slice ao (trm xs).length (trm xs).length) ∧ SrcG .u64 18446744073709551616 w' ao (trm xs).length (trm xs).length (trm xs) ∧ w' = w := by
  have HL := hide hs.hlen
  have HD := hide hs.hdg
  have hcap := hs.hcap
  have hm := hs.lenI
  obtain ⟨hm1, hm2⟩ := hm
  go_enter Tryd.func21, Tryd.ntmps21
  go_wp2
  go_loop [3] (fun v => ∃ k : Nat, k ≤ n ∧ v = .int .i64 k ∧ val 18446744073709551616 (xs.take k) = val 18446744073709551616 xs) (fun v => (intOf v).toNat)
  case atStart => exact ⟨n, Nat.le_refl _, rfl, by rw [List.take_of_length_le (by rw [HL.out]; exact Nat.le_refl _)]⟩
  case round =>
    obtain ⟨k, hk, rfl, hv⟩ := hrel
    have HV := hide hv
    clear hv
    rcases Nat.eq_zero_or_pos k with hk0 | hk0
    · subst hk0
      have he := hide (trm_stop (by decide) HD.out 0 HV.out (by omega) (.inl rfl))
      have hr := sliceG_hm (P := Tryd.prog) 24 Tryd.elemU Tryd.underlying24 Tryd.sizeOfU w ao n cap 0 0 rfl (by omega)
      go_wp2
      go_ret
      have e2 := he.out
      simp at e2
      rw [e2]
      refine ⟨rfl, ?_, rfl⟩
      have := hs.head 0 (by omega)
      simpa using this
    · obtain ⟨j, rfl⟩ : ∃ j, k = j + 1 := ⟨k - 1, by omega⟩
      obtain ⟨b, o, rfl, e1⟩ := hs.at j (by omega)
      have hvs := hide (val_take_succ 18446744073709551616 xs j)
      obtain ⟨x, hx⟩ : ∃ x, xs.getD j 0 = x := ⟨_, rfl⟩
      have HX := hide hx
      rw [hx] at e1 hvs
      clear hx
      have hj1 : ((j + 1 : Nat) : Int) = (j : Int) + 1 := by omega
      rw [hj1]
      have hj2 : (0 : Int) < (j : Int) + 1 := by omega
      have hjn : (j : Int) < (n : Int) := by omega
      by_cases hx0 : x = 0
      · subst hx0
        go_wp2
        go_round
        case rel => exact ⟨j, by omega, by go_num, by rw [← HV.out, hvs.out]; omega⟩
        case measure => simp [intOf] <;> omega
      · have he := hide (trm_stop (by decide) HD.out (j + 1) HV.out (by rw [HL.out]; omega) (.inr (by simp only [Nat.add_sub_cancel]; rw [HX.out]; exact hx0)))
        have hr := sliceG_hm (P := Tryd.prog) 24 Tryd.elemU Tryd.underlying24 Tryd.sizeOfU w (some ⟨b, o, none⟩) n cap ((j : Int) + 1) (j + 1) (by omega) (by omega)
        go_wp2
        go_ret
        have hs2 := hs.head (j + 1) (by omega)
        rw [he.out] at hs2
        have hl2 : (trm xs).length = j + 1 := hs2.hlen
        rw [hl2]
        exact ⟨rfl, hs2, rfl⟩

set_option maxRecDepth 100000 in
theorem tooLong_any (ao : Option Addr) (n cap : Nat) (w : World) (hn : (n : Int) ≤ 9223372036854775807) :
    Calls Tryd.prog 22 #[.slice ao n cap] w fun e w' => e = .returned (.bool (decide (64 < n))) ∧ w' = w := by
  go_enter Tryd.func22, Tryd.ntmps22
  go_wp2
  go_ret
  exact ⟨by first | rfl | (congr 2; simp; omega), rfl⟩

theorem Drew.src {κ : IntKind} {B : Int} {w W : World} (h : Drew w W) {ao : Option Addr} {n cap : Nat} {xs : List Int} (hs : SrcG κ B w ao n cap xs) : SrcG κ B W ao n cap xs := hs.heap h.heap

theorem cmpI_lt {x y : Int} (h : x < y) : cmpI x y = -1 := by unfold cmpI; rw [if_pos h]
theorem cmpI_gt {x y : Int} (h : y < x) : cmpI x y = 1 := by unfold cmpI; rw [if_neg (by omega), if_pos h]
theorem cmpI_eq (x : Int) : cmpI x x = 0 := by unfold cmpI; rw [if_neg (by omega), if_neg (by omega)]

theorem drop_step {xs ys : List Int} (k : Nat) (hx : k < xs.length) (hy : k < ys.length) (hd : xs.drop (k + 1) = ys.drop (k + 1)) (h : xs.getD k 0 = ys.getD k 0) : xs.drop k = ys.drop k := by
  rw [List.drop_eq_getElem_cons hx, List.drop_eq_getElem_cons hy, hd]
  simp [List.getD, hx, hy] at h
  rw [h]

end Go.Proofs.YtekhobmjjoegpaaDoor
