/-
  sign.decoded: the content of an integer as 32 bytes.
  der.One answers as the plain function of the bytes says, the content copied into new memory.
  A signature that is read of bytes has these bytes. Plain lists.
-/
import Derived.Test.YtnabmdpgibnkaabDoorYAgainWalkToSgEnc
import Derived.Test.YtnabmdpgibnkaabDoorYCloneToToX
import Derived.Test.YtnabmdpgibnkaabDoorYCvDec
import Derived.Test.YtnabmdpgibnkaabDoorYFindItToTake
import Derived.Test.YtnabmdpgibnkaabDoorYAgainToAgainM
namespace Go.Proofs.YtnabmdpgibnkaabDoor
open Go.RowKit Go.IntWalk
attribute [local go_sem ↓] ld_dig st_dig ne_dgs bd_dgs

/-- What decoded answers. -/
def padD (v : List Int) : List Int := List.replicate (32 - v.length) 0 ++ v
def dcD (c : List Int) : List Int := if toNatE c ≠ 0 then z32 else if 32 < (toNatV c).length then z32 else padD (toNatV c)
def dcE (c : List Int) : Int := if toNatE c ≠ 0 then toNatE c else if 32 < (toNatV c).length then 21 else 0

theorem stDg {T : TypeId} {w : World} {g : Nat} {Z : List Value} {E : List Int} (h : Blk T w g Z) (hZ : Z.length = 32) (hE : E.length = 32) : (stA 24 (.pointer (some ⟨g, 0, none⟩)) (.agg (bV E).toArray)).run Tryd.prog w = .ok () (w.setCells g 0 (bV E)) :=
  stA_all (by rw [bV_len, hE]; kernel_rfl) h (by rw [hZ, bV_len, hE]) (ints_one _ _)
theorem padD_len {v : List Int} (h : v.length ≤ 32) : (padD v).length = 32 := by unfold padD; simp; omega

set_option maxRecDepth 100000 in
set_option maxHeartbeats 2000000 in
theorem decoded_any (ao : Option Addr) (n cap : Nat) (xs : List Int) (w : World) (hs : Src w ao n cap xs) (hN : n ≤ 140737488355328) (hb : Dg 256 (toNatV xs)) :
    Calls Tryd.prog 33 #[.slice ao n cap] w (Ans (.tuple #[.agg (bV (dcD xs)).toArray, .int .i64 (dcE xs)]) w) := by
  have hS : Bx w [(w.heap.size, 24, bV z32), (w.heap.size + 1, 24, bV z32)] ((w.alloc (.cells #[.int .u8 0, .int .u8 0, .int .u8 0, .int .u8 0, .int .u8 0, .int .u8 0, .int .u8 0, .int .u8 0, .int .u8 0, .int .u8 0, .int .u8 0, .int .u8 0, .int .u8 0, .int .u8 0, .int .u8 0, .int .u8 0, .int .u8 0, .int .u8 0, .int .u8 0, .int .u8 0, .int .u8 0, .int .u8 0, .int .u8 0, .int .u8 0, .int .u8 0, .int .u8 0, .int .u8 0, .int .u8 0, .int .u8 0, .int .u8 0, .int .u8 0, .int .u8 0] 24)).alloc (.cells #[.int .u8 0, .int .u8 0, .int .u8 0, .int .u8 0, .int .u8 0, .int .u8 0, .int .u8 0, .int .u8 0, .int .u8 0, .int .u8 0, .int .u8 0, .int .u8 0, .int .u8 0, .int .u8 0, .int .u8 0, .int .u8 0, .int .u8 0, .int .u8 0, .int .u8 0, .int .u8 0, .int .u8 0, .int .u8 0, .int .u8 0, .int .u8 0, .int .u8 0, .int .u8 0, .int .u8 0, .int .u8 0, .int .u8 0, .int .u8 0, .int .u8 0, .int .u8 0] 24)) := ((Bx.nil w).newAt 0 (w.heap.size) (by simp) 24 (bV z32) _ rfl).newAt 1 (w.heap.size + 1) (by simp) 24 (bV z32) _ rfl
  have HTN : Hid (∀ W, Below w.heap.size w W → Calls Tryd.prog 72 #[.slice ao n cap] W fun e w' => ∃ ao' c', e = .returned (.tuple #[.slice ao' (toNatV xs).length c', .int .i64 (toNatE xs)]) ∧ OwnB w' W.heap.size (.slice ao' (toNatV xs).length c') (toNatV xs) ∧ Below W.heap.size W w') := fun W hW => toNat_any ao n cap xs W (hs.below hW) hN
  have HDD : Hid (dcD xs = (if toNatE xs ≠ 0 then z32 else if 32 < (toNatV xs).length then z32 else padD (toNatV xs))) := rfl
  have HDE : Hid (dcE xs = (if toNatE xs ≠ 0 then toNatE xs else if 32 < (toNatV xs).length then 21 else 0)) := rfl
  have HB := hide hb
  generalize dcD xs = DD at *
  generalize dcE xs = DE at *
  generalize toNatE xs = E at *
  generalize toNatV xs = V at *
  clear hs hN hb
  go_enter Tryd.func33, Tryd.ntmps33
  go_wp2_with fail
  refine (HTN.out _ hS.bl).mono ?_
  rintro e U1 ⟨a1, c1, rfl, O1, LB⟩
  have hS := hS.below LB
  have s1 := hide (O1.toSrc HB.out)
  clear LB O1
  have l1 := ldDd (K := z32) rfl (hS.get 1 rfl)
  have st1 := stDg (E := z32) (hS.get 0 rfl) rfl rfl
  by_cases hE : E = 0
  · subst hE
    by_cases hV : 32 < V.length
    · have hd := HDD.out
      have he := HDE.out
      rw [if_neg (by simp), if_pos hV] at hd he
      subst hd he
      have hv : (32 : Int) < (V.length : Int) := by omega
      have hS' : Bx w [(w.heap.size, 24, bV z32), (w.heap.size + 1, 24, bV z32)] (U1.setCells w.heap.size 0 (bV z32)) := hS.setAt 0 (bV z32) rfl rfl
      have HI : Hid ((Tryd.prog.info? 24).map (·.size) = some (bV z32).length) := by unfold Hid; kernel_rfl
      generalize bV z32 = LZ at *
      clear hS
      go_wp2
      generalize U1.setCells w.heap.size 0 LZ = U9 at hS' ⊢
      refine bodyPost_ret (v := .tuple #[.agg LZ.toArray, .int .i64 21]) ?_ rfl ⟨rfl, hS'.bl⟩
      exact res_two (T := 24) (p := 2) (q := 3) (ty := 24) (X := LZ) (by kernel_rfl) _ _ rfl Tryd.underlying24 rfl HI.out (hS'.get 0 rfl)
    · have hd := HDD.out
      have he := HDE.out
      rw [if_neg (by simp), if_neg hV] at hd he
      subst hd he
      obtain ⟨k, hk⟩ : ∃ k, V.length = k := ⟨_, rfl⟩
      rw [hk] at s1 hV
      rw [hk]
      by_cases hk0 : k = 0
      · subst hk0
        obtain rfl : V = [] := List.length_eq_zero_iff.1 hk
        have hcp : (Builtin.copy_ #[22, 22] 3 #[.slice (some ⟨w.heap.size + 1, 0, none⟩) 0 0, .slice a1 0 c1]).run Tryd.prog U1 = .ok (.int .i64 0) U1 := run_copy_none (P := Tryd.prog) U1 22 22 3 5 _ _ 0 0 0 c1 Tryd.underlying22 (by kernel_rfl) rfl
        have HZ : Hid (bV (padD []) = bV z32) := rfl
        have hS' : Bx w [(w.heap.size, 24, bV z32), (w.heap.size + 1, 24, bV z32)] (U1.setCells w.heap.size 0 (bV z32)) := hS.setAt 0 (bV z32) rfl rfl
        have HI : Hid ((Tryd.prog.info? 24).map (·.size) = some (bV z32).length) := by unfold Hid; kernel_rfl
        generalize bV z32 = LZ at *
        clear hS
        go_wp2
        generalize U1.setCells w.heap.size 0 LZ = U9 at hS' ⊢
        refine bodyPost_ret (v := .tuple #[.agg LZ.toArray, .int .i64 0]) ?_ rfl ⟨by rw [HZ.out], hS'.bl⟩
        exact res_two (T := 24) (p := 2) (q := 3) (ty := 24) (X := LZ) (by kernel_rfl) _ _ rfl Tryd.underlying24 rfl HI.out (hS'.get 0 rfl)
      · have h1 : IntKind.i64.wrap ((32 : Int) - (k : Int)) = ((32 - k : Nat) : Int) := by rw [IntKind.wrap_i64]; omega
        have h2 : ((32 - k : Nat) : Int) ≤ 32 := by omega
        have kb : (k : Int) ≤ 32 := by omega
        have hzs : bV z32 = bV (List.replicate (32 - k) 0) ++ bV (List.replicate k 0) ++ [] := by
          rw [List.append_nil]
          unfold bV z32
          rw [← List.map_append, List.replicate_append_replicate, Nat.sub_add_cancel (by omega)]
        have hB := hS.get 1 rfl
        dsimp only at hB
        rw [hzs] at hB
        have hcp := copyS U1 3 (w.heap.size + 1) (32 - k) k 24 _ _ _ a1 k c1 (32 - (32 - k)) (32 - (32 - k)) V hB (by simp [bV_len]) s1.out (by simp [bV_len]) (by rw [show 32 - (32 - k) = k by omega]; exact Nat.min_self k) (by omega)
        rw [List.take_of_length_le (by omega)] at hcp
        have hpd : bV (padD V) = bV (List.replicate (32 - k) 0) ++ V.map (Value.int .u8) ++ [] := by
          unfold padD bV
          rw [hk, List.append_nil, List.map_append]
        have hS1 : Bx w [(w.heap.size, 24, bV z32), (w.heap.size + 1, 24, bV (padD V))] (U1.setCells (w.heap.size + 1) (32 - k) (V.map (Value.int .u8))) := by
          rw [hpd]
          exact hS.setMid 1 (bV (List.replicate (32 - k) 0)) (bV (List.replicate k 0)) [] (V.map (Value.int .u8)) (32 - k) (by rw [← hzs]; rfl) (by simp [bV_len]) (by simp [bV_len, hk])
        have hpl : (padD V).length = 32 := padD_len (by omega)
        have l2 := ldDd hpl (hS1.get 1 rfl)
        have st2 := stDg (E := padD V) (hS1.get 0 rfl) rfl hpl
        have HI : Hid ((Tryd.prog.info? 24).map (·.size) = some (bV (padD V)).length) := by unfold Hid; rw [bV_len, hpl]; kernel_rfl
        have hS2 : Bx w [(w.heap.size, 24, bV (padD V)), (w.heap.size + 1, 24, bV (padD V))] ((U1.setCells (w.heap.size + 1) (32 - k) (V.map (Value.int .u8))).setCells w.heap.size 0 (bV (padD V))) := hS1.setAt 0 (bV (padD V)) rfl (by rw [bV_len, bV_len, hpl]; rfl)
        generalize bV (padD V) = LP at *
        generalize U1.setCells (w.heap.size + 1) (32 - k) (V.map (Value.int .u8)) = U2 at *
        clear hS hB hzs hpd hS1 l1 st1
        go_wp2
        generalize U2.setCells w.heap.size 0 LP = U9 at hS2 ⊢
        refine bodyPost_ret (v := .tuple #[.agg LP.toArray, .int .i64 0]) ?_ rfl ⟨rfl, hS2.bl⟩
        exact res_two (T := 24) (p := 2) (q := 3) (ty := 24) (X := LP) (by kernel_rfl) _ _ rfl Tryd.underlying24 rfl HI.out (hS2.get 0 rfl)
  · have hd := HDD.out
    have he := HDE.out
    rw [if_pos hE] at hd he
    subst hd
    have HE2 := hide he
    clear he
    have hne : (E != 0) = true := by simpa using hE
    have hS' : Bx w [(w.heap.size, 24, bV z32), (w.heap.size + 1, 24, bV z32)] (U1.setCells w.heap.size 0 (bV z32)) := hS.setAt 0 (bV z32) rfl rfl
    have HI : Hid ((Tryd.prog.info? 24).map (·.size) = some (bV z32).length) := by unfold Hid; kernel_rfl
    generalize bV z32 = LZ at *
    clear hS
    go_wp2
    generalize U1.setCells w.heap.size 0 LZ = U9 at hS' ⊢
    refine bodyPost_ret (v := .tuple #[.agg LZ.toArray, .int .i64 E]) ?_ rfl ⟨by rw [HE2.out], hS'.bl⟩
    exact res_two (T := 24) (p := 2) (q := 3) (ty := 24) (X := LZ) (by kernel_rfl) _ _ rfl Tryd.underlying24 rfl HI.out (hS'.get 0 rfl)

end Go.Proofs.YtnabmdpgibnkaabDoor

namespace Go.Proofs.YtnabmdpgibnkaabDoor
open Go.RowKit Go.IntWalk

/-- Tag, content and the error's number where bytes are to be just one element. -/
def oneS (xs : List Int) : Int × List Int × Int :=
  if (findS xs).2.2.2 ≠ 0 then (0, [], (findS xs).2.2.2)
  else if (findS xs).2.2.1 < (xs.length : Int) then (0, [], 13)
  else ((findS xs).1, contS xs, 0)

set_option maxRecDepth 100000 in
set_option maxHeartbeats 2000000 in
theorem one_any (ao : Option Addr) (n cap : Nat) (xs : List Int) (w : World) (hs : Src w ao n cap xs) (hN : (n : Int) ≤ 140737488355328) :
    Calls Tryd.prog 31 #[.slice ao n cap] w fun e w' => ∃ ao' m c',
      e = .returned (.tuple #[.agg #[.int .i64 (oneS xs).1, .slice ao' m c'], .int .i64 (oneS xs).2.2]) ∧ OwnB w' w.heap.size (.slice ao' m c') (oneS xs).2.1 ∧ Below w.heap.size w w' := by
  have hl := hs.hlen
  rcases findS_cases xs hs.hbyt with ⟨err, h1, h2, h3, he⟩ | ⟨l, h, he, h1, h2, h3, h4, h5⟩
  · have ho : oneS xs = (0, [], err) := by unfold oneS; rw [he, if_pos h1]
    have HE := hide he
    have HO := hide ho
    have h1' : (err != 0) = true := by simpa using h1
    clear he ho h1 hl
    go_enter Tryd.func31, Tryd.ntmps31
    go_wp2_with (go_at_call 69; refine (find_any _ _ _ xs _ (by exact hs.alloc _) hN).mono ?_; rintro e w1 ⟨rfl, hb1⟩; rw [HE.out]; unfold spanV; obtain ⟨hc, hf⟩ := bcell hb1; have hz : w.heap.size < w1.heap.size := by (have := hb1.size; simp at this; omega))
    refine bodyPost_ret (v := .tuple #[.agg #[.int .i64 0, .slice none 0 0], .int .i64 err]) (by simp [results, Tryd.results31, go_sem, hc, hz]) rfl ⟨none, 0, 0, by rw [HO.out], by rw [HO.out]; exact OwnB.nil _ _, ?_⟩
    exact (((((Below.refl _ _).alloc (Nat.le_refl _) _).trans (hb1.mono (by simp))).setCell (by simp) _).setCell (by simp) _).alloc (by simp; omega) _
  · have hcs : contS xs = (xs.take h).drop l := by unfold contS; rw [he]; simp
    rw [hl] at h4
    generalize xs.getD 0 0 = t at he
    by_cases h6 : h < n
    · have ho : oneS xs = (0, [], 13) := by unfold oneS; rw [he, hl, if_neg (by simp), if_pos (by simp only []; omega)]
      have HE := hide he
      have HO := hide ho
      clear he ho hcs hl
      go_enter Tryd.func31, Tryd.ntmps31
      go_wp2_with (go_at_call 69; refine (find_any _ _ _ xs _ (by exact hs.alloc _) hN).mono ?_; rintro e w1 ⟨rfl, hb1⟩; rw [HE.out]; unfold spanV; obtain ⟨hc, hf⟩ := bcell hb1; have hz : w.heap.size < w1.heap.size := by (have := hb1.size; simp at this; omega))
      refine bodyPost_ret (v := .tuple #[.agg #[.int .i64 0, .slice none 0 0], .int .i64 13]) (by simp [results, Tryd.results31, go_sem, hc, hz]) rfl ⟨none, 0, 0, by rw [HO.out], by rw [HO.out]; exact OwnB.nil _ _, ?_⟩
      exact (((((Below.refl _ _).alloc (Nat.le_refl _) _).trans (hb1.mono (by simp))).setCell (by simp) _).setCell (by simp) _).alloc (by simp; omega) _
    · have ho : oneS xs = (t, (xs.take h).drop l, 0) := by unfold oneS; rw [he, hl, if_neg (by simp), if_neg (by simp only []; omega), hcs]
      have HE := hide he
      have HO := hide ho
      clear he ho hcs hl
      go_enter Tryd.func31, Tryd.ntmps31
      go_wp2_with (first | (go_at_call 69; refine (find_any _ _ _ xs _ (by exact hs.alloc _) hN).mono ?_; rintro e w1 ⟨rfl, hb1⟩; rw [HE.out]; unfold spanV; obtain ⟨hc, hf⟩ := bcell hb1; have hz : w.heap.size < w1.heap.size := (by have := hb1.size; simp at this; omega); have i0 : w1.cell? ⟨w.heap.size, 0, none⟩ = some (.int .i64 0) := (by rw [hc _ _ (by simp)]; simp); have i1 : w1.cell? ⟨w.heap.size, 1, none⟩ = some (.slice none 0 0) := (by rw [hc _ _ (by simp)]; simp)) | (go_at_call 70; refine (element_any _ l h _ _ _ xs _ (by exact ((hs.alloc _).below hb1).alloc _) hN h3 h4).mono ?_; rintro e w2 ⟨ao', c', rfl, hv, hb2⟩; obtain ⟨hc2, hf2⟩ := bcell hb2; have j0 : w2.cell? ⟨w.heap.size, 0, none⟩ = some (.int .i64 0) := (hc2 _ _ (by simp; omega)).trans ((World.cell?_alloc_lt _ _ _ hz).trans i0); have j1 : w2.cell? ⟨w.heap.size, 1, none⟩ = some (.slice none 0 0) := (hc2 _ _ (by simp; omega)).trans ((World.cell?_alloc_lt _ _ _ hz).trans i1); have hz2 : w1.heap.size < w2.heap.size := (by have := hb2.size; simp at this; omega)))
      refine bodyPost_ret (v := .tuple #[.agg #[.int .i64 t, .slice ao' (h - l) c'], .int .i64 0]) (by simp [results, Tryd.results31, go_sem, j0, j1]) rfl ⟨ao', h - l, c', by rw [HO.out], ?_, ?_⟩
      · rw [HO.out]
        exact ((hv.setBelow (by simp; omega) _).setBelow (by simp; omega) _).rebase (by simp; omega)
      · exact ((((((Below.refl _ _).alloc (Nat.le_refl _) _).trans (hb1.mono (by simp))).alloc (by omega) _).trans (hb2.mono (by simp; omega))).setCell (by simp) _).setCell (by simp) _

end Go.Proofs.YtnabmdpgibnkaabDoor

namespace Go.Proofs.YtnabmdpgibnkaabDoor
open Go.RowKit

theorem dcE_zero {c : List Int} (h : dcE c = 0) : toNatE c = 0 ∧ (toNatV c).length ≤ 32 := by
  unfold dcE at h
  by_cases h1 : toNatE c ≠ 0
  · rw [if_pos h1] at h; exact absurd h h1
  · rw [if_neg h1] at h
    by_cases h2 : 32 < (toNatV c).length
    · rw [if_pos h2] at h; exact absurd h (by decide)
    · exact ⟨by omega, by omega⟩
theorem toNat_shape {c : List Int} (h : toNatE c = 0) : ∃ x r, c = x :: r ∧ isIntS (x :: r) = true ∧ x < 128 ∧ toNatV c = if x = 0 then r else x :: r := by
  unfold toNatE at h
  unfold toNatV
  by_cases h1 : isIntS c = true
  · rw [if_pos h1] at h ⊢
    by_cases h2 : 128 ≤ c.getD 0 0
    · rw [if_pos h2] at h; exact absurd h (by decide)
    · rw [if_neg h2]
      cases c with
      | nil => exact absurd h1 (by decide)
      | cons x r =>
        refine ⟨x, r, rfl, h1, by simpa using h2, ?_⟩
        simp
  · rw [if_neg h1] at h; exact absurd h (by decide)
theorem nat_back {c : List Int} (hb : Dg 256 c) (h : dcE c = 0) : natS (dcD c) = c ∧ (dcD c).length = 32 ∧ Dg 256 (dcD c) := by
  obtain ⟨h1, h2⟩ := dcE_zero h
  obtain ⟨x, r, rfl, hi, hx, hv⟩ := toNat_shape h1
  have hx0 := hb x (by simp)
  have hd : dcD (x :: r) = padD (toNatV (x :: r)) := by unfold dcD; rw [if_neg (by simpa using h1), if_neg (by omega)]
  have dv : Dg 256 (toNatV (x :: r)) := by
    rw [hv]
    split
    · exact fun y hy => hb y (List.mem_cons_of_mem _ hy)
    · exact hb
  refine ⟨?_, by rw [hd]; exact padD_len h2, ?_⟩
  · rw [hd, hv]
    unfold natS padD
    have hz : (if 128 ≤ x then (255 : Int) else 0) = 0 := if_neg (by omega)
    rw [hv] at h2
    by_cases h0 : x = 0
    · subst h0
      rw [if_pos rfl] at h2 ⊢
      have E := shortS_ext 0 r (by omega) (by omega) hi (32 - r.length)
      rw [hz] at E
      rw [← E]
      congr 1
      rw [← List.cons_append, ← List.replicate_succ, List.replicate_succ', List.append_assoc]
      rfl
    · rw [if_neg h0] at h2 ⊢
      have E := shortS_ext x r hx0.1 hx0.2 hi (32 - (x :: r).length + 1)
      rw [hz, List.replicate_succ, List.cons_append] at E
      exact E
  · rw [hd]
    intro y hy
    rcases List.mem_append.1 hy with hy | hy
    · have := (List.mem_replicate.1 hy).2; omega
    · exact dv y hy

theorem one_bytes {xs : List Int} (hb : Dg 256 xs) (h : (oneS xs).2.2 = 0) : putB ((oneS xs).1, (oneS xs).2.1) = xs ∧ Dg 256 (oneS xs).2.1 := by
  unfold oneS at *
  by_cases h1 : (findS xs).2.2.2 ≠ 0
  · rw [if_pos h1] at h; exact absurd h h1
  · rw [if_neg h1] at h ⊢
    by_cases h2 : (findS xs).2.2.1 < (xs.length : Int)
    · rw [if_pos h2] at h; exact absurd h (by decide)
    · rw [if_neg h2]
      rcases findS_cases xs hb with ⟨err, he, _, _, e⟩ | ⟨l, k, e, _, _, hlk, hk, _⟩
      · rw [e] at h1
        exact absurd he h1
      · rw [e] at h2
        have hk2 : k = xs.length := by
          have : ¬ (k : Int) < (xs.length : Int) := h2
          omega
        have P := (put_find xs hb _ l k e hk hlk).2
        rw [hk2, List.take_length] at P
        refine ⟨?_, ?_⟩
        · show putB ((findS xs).1, contS xs) = xs
          rw [e]
          exact P
        · show Dg 256 (contS xs)
          unfold contS
          exact fun x hx => hb x (List.mem_of_mem_take (List.mem_of_mem_drop hx))

/-- What stands in bytes that are elements one behind the other. -/
theorem all_bytes {c : List Int} (hb : Dg 256 c) (hE : ¬ endS c (placesS c 0) < c.length) : catS ((placesS c 0).map (elS c)) = c ∧ ∀ e ∈ (placesS c 0).map (elS c), Dg 256 e.2 := by
  obtain ⟨j1, j2, j3, j4, j5⟩ := places_cat c hb (c.length - 0) 0 (Nat.le_refl _) (Nat.zero_le _)
  have j3' : endS c (placesS c 0) ≤ c.length := j3
  have j4' : catS ((placesS c 0).map (elS c)) = c.take (endS c (placesS c 0)) := j4
  refine ⟨by rw [j4', List.take_of_length_le (by omega)], ?_⟩
  intro e he
  obtain ⟨q, _, rfl⟩ := List.mem_map.1 he
  unfold elS contS
  exact fun x hx => hb x (List.mem_of_mem_drop (List.mem_of_mem_take (List.mem_of_mem_drop hx)))
theorem all_err {c : List Int} (hb : Dg 256 c) (hE : endS c (placesS c 0) < c.length) : (findS (c.drop (endS c (placesS c 0)))).2.2.2 ≠ 0 := by
  obtain ⟨j1, j2, j3, j4, j5⟩ := places_cat c hb (c.length - 0) 0 (Nat.le_refl _) (Nat.zero_le _)
  exact j5 hE

theorem once_bytes {xs c c1 c2 : List Int} {es : List (Int × List Int)} (h1 : putB (48, c) = xs) (hes : catS es = c) (h2 : es = [(2, c1), (2, c2)]) (n1 : natS (dcD c1) = c1) (n2 : natS (dcD c2) = c2) : encB (dcD c1) (dcD c2) = xs := by
  unfold encB
  rw [n1, n2, ← h1, ← hes, h2]
  unfold catS
  simp

end Go.Proofs.YtnabmdpgibnkaabDoor
