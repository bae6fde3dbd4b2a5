/-
  The statements' own helpers: lent, kept, same, own, two, names.
-/
import Derived.Test.YtekhobmjjoegpaaDoorNRefSum
import Derived.OwnWalk
namespace Go.Proofs.YtekhobmjjoegpaaDoor
open Go.RowKit Go.IntWalk

/-- Limbs that were lent: copied, with a mark in the room behind them. -/
structure Lent (w : World) (base g n c : Nat) (xs : List Int) : Prop where
  own : OwnG .u64 48 w base (.slice (some ⟨g, 0, none⟩) (n + 1) c) (xs ++ [77])
  cap : n + 1 ≤ c
  max : c ≤ maxLen
  dg : Dg 18446744073709551616 xs
  len : xs.length = n

theorem Lent.dg2 {w : World} {base g n c : Nat} {xs : List Int} (h : Lent w base g n c xs) : Dg 18446744073709551616 (xs ++ [77]) := h.dg.append (by intro x hx; simp at hx; omega)

theorem Lent.src {w : World} {base g n c : Nat} {xs : List Int} (h : Lent w base g n c xs) : SrcG .u64 18446744073709551616 w (some ⟨g, 0, none⟩) n c xs :=
  h.own.src h.dg2 n (by omega) (by rw [List.take_append_of_le_length (by rw [h.len]; exact Nat.le_refl _), List.take_of_length_le (by rw [h.len]; exact Nat.le_refl _)]) h.max

theorem Lent.below {w w' : World} {base g n c : Nat} {xs : List Int} (h : Lent w base g n c xs) (hb : Below w.heap.size w w') : Lent w' base g n c xs := ⟨h.own.belowA hb, h.cap, h.max, h.dg, h.len⟩

theorem Lent.drew {w w' : World} {base g n c : Nat} {xs : List Int} (h : Lent w base g n c xs) (hb : Drew w w') : Lent w' base g n c xs := ⟨h.own.heap hb.heap, h.cap, h.max, h.dg, h.len⟩

set_option maxRecDepth 100000 in
set_option maxHeartbeats 1000000 in
theorem lent_any (ao : Option Addr) (n cap : Nat) (xs : List Int) (w : World) (hs : SrcG .u64 18446744073709551616 w ao n cap xs) (hn : n ≤ 17592186043904) :
    Calls Tryd.prog 7 #[.slice ao n cap] w fun e w' => ∃ g c, e = .returned (.slice (some ⟨g, 0, none⟩) n c) ∧ Lent w' w.heap.size g n c xs ∧ Below w.heap.size w w' := by
  have HL := hide hs.hlen
  have HD := hide hs.hdg
  go_enter Tryd.func7, Tryd.ntmps7
  go_wp2_with (first | (at_builtin; refine appG 24 8 Tryd.underlying24 Tryd.infoU _ rfl (.tmp 3) (.tmp 4) rfl w.heap.size (.slice (some ⟨w.heap.size, 0, none⟩) 0 0) [] rfl (OwnG.lit _ [] _ 0 rfl rfl (Nat.le_refl _) (by decide)) ao n cap xs rfl (hs.alloc _) n (by simpa using HL.out) (.inl (by simp)) (by omega) (by omega) (by simp) ?_; intro g1 c1 w1 ho1 hb1 hl1 hc1 hm1 hg1 hk1) | (at_builtin; refine appG 24 8 Tryd.underlying24 Tryd.infoU _ rfl (.tmp 5) (.tmp 6) rfl w.heap.size (.slice (some ⟨g1, 0, none⟩) n c1) xs rfl (ho1.alloc _) (some ⟨w1.heap.size, 0, none⟩) 1 1 [77] rfl (SrcG.litAt (B := 18446744073709551616) [77] _ 1 _ rfl rfl (by intro x hx; simp at hx; omega) (by decide) rfl) (n + 1) (by simpa using HL.out) (.inl (by simp)) (by omega) (by omega) (by simp; omega) ?_; intro g c w2 ho2 hb2 hl2 hc2 hm2 hg2 hk2; have hnc : n ≤ c := by omega))
  go_ret
  refine ⟨g, c, rfl, ⟨ho2, hc2, hm2, HD.out, HL.out⟩, ?_⟩
  have z : w.heap.size ≤ w1.heap.size := by omega
  exact ((((Below.refl _ _).alloc (Nat.le_refl _) _).grown hg1 (by simp) (by intro k hk; cases hk; exact Nat.le_refl _)).alloc z _).grown hg2 (by simp; omega) (by intro k hk; cases hk; exact hb1)

set_option maxRecDepth 100000 in
set_option maxHeartbeats 1000000 in
theorem same_true (a1 : Option Addr) (n c1 : Nat) (xs : List Int) (a2 : Option Addr) (c2 : Nat) (w : World) (h1 : SrcG .u64 18446744073709551616 w a1 n c1 xs) (h2 : SrcG .u64 18446744073709551616 w a2 n c2 xs) :
    Calls Tryd.prog 20 #[.slice a1 n c1, .slice a2 n c2] w fun e w' => e = .returned (.bool true) ∧ Drew w w' := by
  obtain ⟨m1, _⟩ := h1.lenI
  go_enter Tryd.func20, Tryd.ntmps20
  go_wp2
  go_loopw [5] (fun i wr => ∃ k : Nat, k ≤ n ∧ i = .int .i64 k ∧ Drew w wr) (fun i _ => n - (intOf i).toNat)
  case atStart => exact ⟨0, Nat.zero_le _, rfl, Drew.refl _⟩
  case round =>
    obtain ⟨k, hk, rfl, hD⟩ := hrel
    by_cases hkn : k < n
    · have hkI : (k : Int) < (n : Int) := by omega
      obtain ⟨b, o, hb1, e1⟩ := (hD.src h1).at k hkn
      obtain ⟨b', o', hb2, e2⟩ := (hD.src h2).at k hkn
      generalize xs.getD k 0 = x at e1 e2
      subst hb1 hb2
      go_wp2_with fail
      go_quiet (fail)
      go_wp2
      go_roundw
      case rel => exact ⟨k + 1, by omega, by go_num, by first | exact hD | exact hD.more _⟩
      case measure => simp [intOf] <;> omega
    · have hkI : ¬ (k : Int) < (n : Int) := by omega
      go_wp2
      go_ret
      exact ⟨rfl, hD⟩

set_option maxRecDepth 100000 in
set_option maxHeartbeats 1000000 in
theorem kept_true (base g n c : Nat) (ao : Option Addr) (cap : Nat) (xs : List Int) (w : World) (hl : Lent w base g n c xs) (h2 : SrcG .u64 18446744073709551616 w ao n cap xs) (hn : n ≤ 17592186043904) :
    Calls Tryd.prog 15 #[.slice (some ⟨g, 0, none⟩) n c, .slice ao n cap] w fun e w' => e = .returned (.bool true) ∧ Drew w w' := by
  have h1 := hl.src
  have hcell := hl.own.cell n (by simp [hl.len])
  rw [show (xs ++ [(77 : Int)]).getD n 0 = 77 by rw [List.getD, List.getElem?_append_right (by rw [hl.len]; exact Nat.le_refl _), hl.len]; simp] at hcell
  have hcI : (n : Int) + 1 ≤ (c : Int) := by have := hl.cap; omega
  have hnI : (n : Int) ≤ 17592186043904 := by omega
  have hw : IntKind.i64.wrap ((n : Int) + 1) = (n : Int) + 1 := i64_in _ (by omega)
  have hp : (0 : Int) ≤ (n : Int) + 1 := by omega
  have hsl : ∀ W : World, (Instr.slice 24 (.slice (some ⟨g, 0, none⟩) n c) none (some (.int .i64 ((n : Int) + 1))) none).run Tryd.prog W = .ok (.slice (some ⟨g, 0, none⟩) (n + 1) c) W := fun W => sliceG_to _ Tryd.elemU Tryd.underlying24 Tryd.sizeOfU W _ _ _ _ (n + 1) (by omega) hl.cap
  have HH := hide hl
  clear hl hn
  go_enter Tryd.func15, Tryd.ntmps15
  go_wp2
  go_loopw [5] (fun i wr => ∃ k : Nat, k ≤ n ∧ i = .int .i64 k ∧ Drew w wr) (fun i _ => n - (intOf i).toNat)
  case atStart => exact ⟨0, Nat.zero_le _, rfl, Drew.refl _⟩
  case round =>
    obtain ⟨k, hk, rfl, hD⟩ := hrel
    by_cases hkn : k < n
    · have hkI : (k : Int) < (n : Int) := by omega
      obtain ⟨b, o, hb1, e1⟩ := (hD.src h1).at k hkn
      obtain ⟨b', o', hb2, e2⟩ := (hD.src h2).at k hkn
      generalize xs.getD k 0 = x at e1 e2
      cases hb1; subst hb2; rw [Nat.zero_add] at e1
      go_wp2_with fail
      go_quiet (fail)
      go_wp2
      go_roundw
      case rel => exact ⟨k + 1, by omega, by go_num, by first | exact hD | exact hD.more _⟩
      case measure => simp [intOf] <;> omega
    · have hkI : ¬ (k : Int) < (n : Int) := by omega
      rw [← hD.cell] at hcell
      go_wp2
      go_ret
      exact ⟨rfl, hD⟩

theorem names_true (w : World) : Calls Tryd.prog 16 #[] w fun e w' => e = .returned (.bool true) ∧ w' = w := by
  go_enter Tryd.func16, Tryd.ntmps16
  go_wp2
  go_ret
  exact ⟨rfl, rfl⟩

theorem pw_base {a b : Int} (ha : 1 ≤ a) (hab : a ≤ b) : ∀ i, pw a i ≤ pw b i
  | 0 => Int.le_refl _
  | i + 1 => by
    have h1 := pw_base ha hab i
    have h2 := pw_pos (b := a) (by omega) i
    exact Int.mul_le_mul hab h1 (by omega) (by omega)

theorem tr_short {zs : List Int} (hz : Dg 18446744073709551616 zs) (ht : Tr zs) (L : Nat) (h : val 18446744073709551616 zs < pw 65536 L) : zs.length ≤ L := by
  have h1 := pw_base (a := 65536) (b := 18446744073709551616) (by decide) (by decide) L
  rcases Nat.lt_or_ge L zs.length with h2 | h2
  · exfalso
    have h3 := tr_low (b := 18446744073709551616) (by decide) hz ht (by intro h'; rw [h'] at h2; simp at h2)
    have h4 := pw_mono (b := 18446744073709551616) (by decide) L (zs.length - 1) (by omega)
    omega
  · exact h2

set_option maxRecDepth 100000 in
theorem own_bad (bad : Int) (v : Value) (w : World) (hb : bad ≠ 0) :
    Calls Tryd.prog 6 #[.slice none 0 0, .slice none 0 0, .int .i64 bad, v, .int .i64 bad] w fun e w' => e = .returned (.bool true) ∧ w' = w := by
  have hb1 : (bad == 0) = false := by simpa using hb
  go_enter Tryd.func6, Tryd.ntmps6
  go_wp2
  go_ret
  exact ⟨rfl, rfl⟩

set_option maxRecDepth 100000 in
set_option maxHeartbeats 2000000 in
theorem own_ok (base1 base2 : Nat) (v1 v2 v3 : Value) (zs : List Int) (x : Int) (L : Nat) (w : World) (h1 : GotG .u64 18446744073709551616 48 w base1 v1 zs) (h2 : GotG .u64 18446744073709551616 48 w base2 v2 zs) (hne : v1.ownBlock ≠ v2.ownBlock) (h3 : NumD w v3 x L) (hL : L ≤ 100000) (ht : Tr zs) (hv : val 18446744073709551616 zs = x) :
    Calls Tryd.prog 6 #[v1, v2, .int .i64 0, v3, .int .i64 0] w fun e w' => e = .returned (.bool true) ∧ w.grownBy w' v1.ownBlock := by
  have hzl : zs.length ≤ 100000 := by
    have h9 := h3.nonneg.2
    rw [← hv] at h9
    have := tr_short h1.dg ht L h9
    omega
  obtain ⟨a3, n3, c3, ds, rfl, s3, t3, l3, vd⟩ := h3
  have cl := limbs_any a3 n3 c3 ds w s3 t3 (by omega)
  have CL := hide cl
  obtain ⟨g1, rest1, rfl, hb1, R1, hl1⟩ := h1
  obtain ⟨g2, rest2, rfl, hb2, R2, hl2⟩ := h2
  have hgg : g1 ≠ g2 := by simpa [Value.ownBlock] using hne
  have dz : Dg 18446744073709551616 zs := fun y hy => R1.2 y (by simp [hy])
  have HT := hide ht
  have HV : Hid (val 18446744073709551616 zs = val 65536 ds) := by unfold Hid; rw [hv, vd]
  have HDZ := hide dz
  obtain ⟨n, hn⟩ : ∃ n, zs.length = n := ⟨_, rfl⟩
  have HN := hide hn
  simp only [Value.ownBlock]
  rw [hn]
  have S1 : Hid (SrcG .u64 18446744073709551616 w (some ⟨g1, 0, none⟩) n n zs) := by unfold Hid; have := R1.src 0 n n (by simp [hn]) (Nat.le_refl _) (by unfold maxLen; omega); rwa [List.drop_zero, List.take_append_of_le_length (by omega), List.take_of_length_le (by omega)] at this
  have S2 : Hid (SrcG .u64 18446744073709551616 w (some ⟨g2, 0, none⟩) n n zs) := by unfold Hid; have := R2.src 0 n n (by simp [hn]) (Nat.le_refl _) (by unfold maxLen; omega); rwa [List.drop_zero, List.take_append_of_le_length (by omega), List.take_of_length_le (by omega)] at this
  have G1 := R1.lt
  have G2 := R2.lt
  have HG : Hid (g1 < w.heap.size ∧ g2 < w.heap.size ∧ g1 ≠ g2) := ⟨G1, G2, hgg⟩
  have HR1 := hide R1
  have hnI : (n : Int) ≤ 100000 := by omega
  have HN2 : Hid (n ≤ 100000) := by unfold Hid; omega
  clear cl s3 t3 l3 vd hL hzl ht hv hne dz hn R1 R2 hl1 hl2 hb1 hb2 G1 G2 hgg
  go_enter Tryd.func6, Tryd.ntmps6
  go_wp2_with fail
  refine CL.out.mono ?_
  rintro e w1 ⟨ao, c, ls, rfl, hls, tls, vls, hblk, hB1⟩
  have hEq : zs = ls := tr_inj (b := 18446744073709551616) (by decide) HDZ.out hls.hdg HT.out tls (by rw [vls]; exact HV.out)
  subst hEq
  rw [HN.out] at hls ⊢
  have HLS := hide hls
  have HBLK := hide hblk
  clear hls tls vls hblk
  go_wp2_with fail
  refine (same_true _ _ _ zs _ _ _ (S1.out.below hB1) HLS.out).mono ?_
  rintro e w2 ⟨rfl, hD2⟩
  have HB2 : Hid (Below w.heap.size w w2) := hD2.below hB1
  have HR2 : Hid (RowG .u64 18446744073709551616 48 w2 g1 (zs ++ rest1)) := (HR1.out.below hB1).heap hD2.heap
  have HLS2 : Hid (SrcG .u64 18446744073709551616 w2 ao n c zs) := hD2.src HLS.out
  clear hB1 hD2 HLS
  go_wp2
  go_loopw [12] (fun i wr => ∃ (k : Nat) (Z : List Int), k ≤ n ∧ i = .int .i64 k ∧ Hid (Z.length = (zs ++ rest1).length) ∧ Hid (RowG .u64 18446744073709551616 48 wr g1 Z) ∧ w2.grownBy wr (some g1)) (fun i _ => n - (intOf i).toNat)
  case atStart => exact ⟨0, _, Nat.zero_le _, rfl, rfl, HR2, World.grownBy.refl _ _⟩
  case round =>
    obtain ⟨k, Z, hk, rfl, HZ, HR, hg⟩ := hrel
    have hZn : Hid (n ≤ Z.length) := by unfold Hid; rw [HZ.out, List.length_append, HN.out]; omega
    by_cases hkn : k < n
    · have hkI : (k : Int) < (n : Int) := by omega
      have e1 := HR.out.cell k (by have := hZn.out; omega)
      have e2 := HR.out.frozen k
      generalize Z.getD k 0 = z at e1
      obtain ⟨u, hu⟩ : ∃ u, IntKind.u64.wrap (z + 1) = u := ⟨_, rfl⟩
      have hu0 : 0 ≤ u ∧ u < 18446744073709551616 := by rw [← hu, IntKind.wrap_u64]; omega
      have HR' : Hid (RowG .u64 18446744073709551616 48 (wr.setCell ⟨g1, k, none⟩ (.int .u64 u)) g1 (Z.set k u)) := HR.out.set k u hu0
      have HG' : Hid (w2.grownBy (wr.setCell ⟨g1, k, none⟩ (.int .u64 u)) (some g1)) := gTrans hg (gSet wr g1 k (.int .u64 u))
      go_wp2
      go_roundw
      case rel => exact ⟨k + 1, Z.set k u, by omega, by go_num, by unfold Hid; rw [List.length_set]; exact HZ.out, HR', HG'.out⟩
      case measure => simp [intOf] <;> omega
    · have hkI : ¬ (k : Int) < (n : Int) := by omega
      have hsr : SrcG .u64 18446744073709551616 wr (some ⟨g1, 0, none⟩) n n (Z.take n) := by have := HR.out.src 0 n n (by have := hZn.out; omega) (Nat.le_refl _) (by unfold maxLen; omega); rwa [List.drop_zero] at this
      have HSR := hide hsr
      clear hsr
      have hn9 := HN2.out
      go_wp2_with (at_builtin; refine appFull 24 8 Tryd.underlying24 Tryd.infoU _ rfl (.tmp 52) (.tmp 53) rfl (some ⟨g1, 0, none⟩) n (Z.take n) rfl (HSR.out.alloc _) ⟨wr.heap.size, 0, none⟩ 2 2 [5, 5] rfl (SrcG.litAt (B := 18446744073709551616) [5, 5] _ 2 _ rfl rfl (by intro x hx; simp at hx; omega) (by decide) rfl) (by omega) (by omega) (by omega) ?_; intro v' w4 hg4)
      have hgA : w2.grownBy w4 (some g1) := gTrans (gTrans hg (World.grownBy_alloc _ _ _)) (gAny hg4)
      have sy : SrcG .u64 18446744073709551616 w4 (some ⟨g2, 0, none⟩) n n zs := (S2.out.below HB2.out).grown hgA (by intro b o hb _ h; simp at hb h; have := HG.out; omega)
      have sl : SrcG .u64 18446744073709551616 w4 ao n c zs := HLS2.out.grown hgA (by intro b o hb _ h; have h9 := HBLK.out b o hb; simp at h; have := HG.out; omega)
      have hgw : w.grownBy w4 (some g1) := gTrans (gOfBelow HB2.out) hgA
      have SY := hide sy
      have SL := hide sl
      clear sy sl hgA hg4 hg
      go_wp2_with fail
      refine (same_true _ _ _ zs _ _ _ SY.out SL.out).mono ?_
      rintro e w5 ⟨rfl, hD5⟩
      go_wp2
      go_ret
      exact ⟨rfl, ⟨hD5.os.trans hgw.os, hD5.tape.trans hgw.tape, hD5.output.trans hgw.output, by rw [hD5.heap]; exact hgw.size, fun k hk hr => by rw [hD5.heap]; exact hgw.block k hk hr⟩⟩

end Go.Proofs.YtekhobmjjoegpaaDoor
