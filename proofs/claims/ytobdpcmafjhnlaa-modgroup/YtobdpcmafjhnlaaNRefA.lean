/-
  The document's numbers: digits to the base 65536. Its digit, bare, Of.
-/
import Derived.Test.YtobdpcmafjhnlaaNTrim
namespace Go.Proofs.Ytobdpcmafjhnlaa
open Go.RowKit Go.IntWalk

theorem Try.infoI : (Try.prog.info? 3).map (fun i => (i.zero, i.size, i.bytes)) = some (some (.int .i64 0), 1, 8) := by kernel_rfl
theorem Try.elemN : Try.prog.elem 26 = 3 := by kernel_rfl
theorem Try.sizeOfN (w : World) : (sizeOf 3).run Try.prog w = .ok 1 w := by kernel_rfl

/-- A slice that is a number of the document's, of at most L digits. -/
def NumD (w : World) (v : Value) (x : Int) (L : Nat) : Prop := ∃ ao n c xs, v = .slice ao n c ∧ SrcG .i64 65536 w ao n c xs ∧ Tr xs ∧ n ≤ L ∧ val 65536 xs = x

theorem NumD.below {w w' : World} {v : Value} {x : Int} {L : Nat} (h : NumD w v x L) (hb : Below w.heap.size w w') : NumD w' v x L := by
  obtain ⟨ao, n, c, xs, he, hs, ht, hl, hv⟩ := h
  exact ⟨ao, n, c, xs, he, hs.below hb, ht, hl, hv⟩

theorem NumD.drew {w w' : World} {v : Value} {x : Int} {L : Nat} (h : NumD w v x L) (hb : Drew w w') : NumD w' v x L := by
  obtain ⟨ao, n, c, xs, he, hs, ht, hl, hv⟩ := h
  exact ⟨ao, n, c, xs, he, hb.src hs, ht, hl, hv⟩

theorem NumD.nil (w : World) (L : Nat) : NumD w (.slice none 0 0) 0 L := ⟨none, 0, 0, [], rfl, ⟨rfl, Nat.le_refl _, by decide, fun _ => ⟨rfl, rfl⟩, fun h => absurd rfl h, by intro x hx; simp at hx⟩, fun h => absurd rfl h, Nat.zero_le _, rfl⟩

theorem NumD.nonneg {w : World} {v : Value} {x : Int} {L : Nat} (h : NumD w v x L) : 0 ≤ x ∧ x < pw 65536 L := by
  obtain ⟨ao, n, c, xs, he, hs, ht, hl, hv⟩ := h
  have h1 := val_nonneg (b := 65536) (by decide) hs.hdg
  have h2 := val_lt (b := 65536) (by decide) hs.hdg
  rw [hv] at h1 h2
  have h3 := pw_mono (b := 65536) (by decide) xs.length L (by rw [hs.hlen]; exact hl)
  omega

set_option maxRecDepth 100000 in
theorem digit_any (ao : Option Addr) (n cap : Nat) (xs : List Int) (i : Nat) (I : Int) (hI : I = (i : Int)) (w : World) (hs : SrcG .i64 65536 w ao n cap xs) :
    Calls Try.prog 59 #[.slice ao n cap, .int .i64 I] w fun e w' => e = .returned (.int .i64 (xs.getD i 0)) ∧ w' = w := by
  have hl := hs.hlen
  have hm := hs.lenI
  subst hI
  by_cases hi : i < n
  · obtain ⟨b, o, rfl, e1⟩ := hs.at i hi
    have hiI : ¬ (n : Int) ≤ (i : Int) := by omega
    have hiJ : (i : Int) < (n : Int) := by omega
    generalize xs.getD i 0 = x at e1
    clear hl
    go_enter Try.func59, Try.ntmps59
    go_wp2
    go_ret
    exact ⟨rfl, rfl⟩
  · have hiI : (n : Int) ≤ (i : Int) := by omega
    have hz : xs.getD i 0 = 0 := by rw [List.getD, List.getElem?_eq_none (by omega)]; rfl
    rw [hz]
    clear hz hl
    go_enter Try.func59, Try.ntmps59
    go_wp2
    go_ret
    exact ⟨rfl, rfl⟩

theorem SrcG.head3 {κ : IntKind} {B : Int} {w : World} {ao : Option Addr} {n c : Nat} {xs : List Int} (hs : SrcG κ B w ao n c xs) (h : Nat) (hh : h ≤ n) : SrcG κ B w ao h c (xs.take h) := by
  have := hs.cut 0 h (Nat.zero_le _) hh
  simpa [cutG_zero] using this

theorem sliceG_to {P : Program} {T : TypeId} (sT : TypeId) (hT : P.elem sT = T) (hu : P.underlying sT = some (.slice T)) (hsz : ∀ w : World, (sizeOf T).run P w = .ok 1 w) (w : World) (ao : Option Addr) (n c : Nat) (h : Int) (m : Nat) (hm : h = (m : Int)) (hc : m ≤ c) :
    (Instr.slice sT (.slice ao n c) none (some (.int .i64 h)) none).run P w = .ok (.slice ao m c) w := by
  subst hm
  have hu' : P.underlying sT = some (.slice (P.elem sT)) := by rw [hT]; exact hu
  rw [run_slice_h w _ _ _ _ hu' .i64 (m : Int) (by omega) (by omega), hT, hsz]
  have := cutG_zero ao c
  unfold cutG at this
  simp only [Result.andThen_ok, sliced, Int.toNat_natCast, Nat.sub_zero, Nat.zero_mul, this]

set_option maxRecDepth 100000 in
set_option maxHeartbeats 1000000 in
theorem bare_at (ao : Option Addr) (n cap : Nat) (xs : List Int) (w : World) (hs : SrcG .i64 65536 w ao n cap xs) (hn : n ≤ 1000000) :
    Calls Try.prog 35 #[.slice ao n cap] w fun e w' => ∃ g c', e = .returned (.slice (some ⟨g, 0, none⟩) (trm xs).length c') ∧ SrcG .i64 65536 w' (some ⟨g, 0, none⟩) (trm xs).length c' (trm xs) ∧ Below w.heap.size w w' ∧ w.heap.size ≤ g := by
  have HL := hide hs.hlen
  have HD := hide hs.hdg
  have hcap := hs.hcap
  have hm := hs.lenI
  obtain ⟨hm1, hm2⟩ := hm
  go_enter Try.func35, Try.ntmps35
  go_wp2
  go_loop [3] (fun v => ∃ k : Nat, k ≤ n ∧ v = .int .i64 k ∧ val 65536 (xs.take k) = val 65536 xs) (fun v => (intOf v).toNat)
  case atStart => exact ⟨n, Nat.le_refl _, rfl, by rw [List.take_of_length_le (by rw [HL.out]; exact Nat.le_refl _)]⟩
  case round =>
    obtain ⟨k, hk, rfl, hv⟩ := hrel
    have HV := hide hv
    clear hv
    rcases Nat.eq_zero_or_pos k with hk0 | hk0
    · subst hk0
      have he := hide (trm_stop (by decide) HD.out 0 HV.out (by omega) (.inl rfl))
      have hT : Hid ((trm xs).length = 0) := by unfold Hid; rw [← he.out, List.length_take, HL.out]; omega
      have hr : ∀ W : World, (Instr.slice 26 (.slice ao n cap) none (some (.int .i64 0)) none).run Try.prog W = .ok (.slice ao (0) cap) W := fun W => sliceG_to _ Try.elemN Try.underlying26 Try.sizeOfN W ao n cap _ (0) (by omega) (by omega)
      have hsrc : SrcG .i64 65536 w ao (0) cap (trm xs) := by rw [← he.out]; exact hs.head3 (0) (by omega)
      go_wp2_with (at_builtin; refine appG 26 8 Try.underlying26 Try.infoI _ rfl (.tmp 18) (.tmp 21) rfl w.heap.size (.slice (some ⟨w.heap.size, 0, none⟩) 0 0) [] rfl (OwnG.lit _ [] _ 0 rfl rfl (Nat.le_refl _) (by decide)) ao (0) cap (trm xs) rfl (hsrc.alloc _) (0) (by simpa using hT.out) (.inl (by simp)) (by omega) (by omega) (by simp) ?_; intro g c w1 ho1 hb1 hl1 hc1 hm1 hg1 _)
      go_ret
      rw [hT.out]
      simp only [List.nil_append] at ho1
      have hs1 := ho1.toSrc (trm_dg HD.out)
      exact ⟨g, c, rfl, hs1, ((Below.refl _ _).alloc (Nat.le_refl _) _).grown hg1 (by simp) (by intro k hk; cases hk; exact Nat.le_refl _), hb1⟩
    · obtain ⟨j, rfl⟩ : ∃ j, k = j + 1 := ⟨k - 1, by omega⟩
      obtain ⟨b, o, rfl, e1⟩ := hs.at j (by omega)
      have hvs := hide (val_take_succ 65536 xs j)
      obtain ⟨x, hx⟩ : ∃ x, xs.getD j 0 = x := ⟨_, rfl⟩
      have HX := hide hx
      rw [hx] at e1 hvs
      clear hx
      have hj1 : ((j + 1 : Nat) : Int) = (j : Int) + 1 := by omega
      rw [hj1]
      have hj2 : (0 : Int) < (j : Int) + 1 := by omega
      have hjn : (j : Int) < (n : Int) := by omega
      by_cases hx0 : x = 0
      · subst hx0
        go_wp2
        go_round
        case rel => exact ⟨j, by omega, by go_num, by rw [← HV.out, hvs.out]; omega⟩
        case measure => simp [intOf] <;> omega
      · have he := hide (trm_stop (by decide) HD.out (j + 1) HV.out (by rw [HL.out]; omega) (.inr (by simp only [Nat.add_sub_cancel]; rw [HX.out]; exact hx0)))
        have hT : Hid ((trm xs).length = j + 1) := by unfold Hid; rw [← he.out, List.length_take, HL.out]; omega
        have hr : ∀ W : World, (Instr.slice 26 (.slice (some ⟨b, o, none⟩) n cap) none (some (.int .i64 ((j : Int) + 1))) none).run Try.prog W = .ok (.slice (some ⟨b, o, none⟩) (j + 1) cap) W := fun W => sliceG_to _ Try.elemN Try.underlying26 Try.sizeOfN W (some ⟨b, o, none⟩) n cap _ (j + 1) (by omega) (by omega)
        have hsrc : SrcG .i64 65536 w (some ⟨b, o, none⟩) (j + 1) cap (trm xs) := by rw [← he.out]; exact hs.head3 (j + 1) (by omega)
        go_wp2_with (at_builtin; refine appG 26 8 Try.underlying26 Try.infoI _ rfl (.tmp 18) (.tmp 21) rfl w.heap.size (.slice (some ⟨w.heap.size, 0, none⟩) 0 0) [] rfl (OwnG.lit _ [] _ 0 rfl rfl (Nat.le_refl _) (by decide)) (some ⟨b, o, none⟩) (j + 1) cap (trm xs) rfl (hsrc.alloc _) (j + 1) (by simpa using hT.out) (.inl (by simp)) (by omega) (by omega) (by simp) ?_; intro g c w1 ho1 hb1 hl1 hc1 hm1 hg1 _)
        go_ret
        rw [hT.out]
        simp only [List.nil_append] at ho1
        have hs1 := ho1.toSrc (trm_dg HD.out)
        exact ⟨g, c, rfl, hs1, ((Below.refl _ _).alloc (Nat.le_refl _) _).grown hg1 (by simp) (by intro k hk; cases hk; exact Nat.le_refl _), hb1⟩

theorem bare_any (ao : Option Addr) (n cap : Nat) (xs : List Int) (w : World) (hs : SrcG .i64 65536 w ao n cap xs) (hn : n ≤ 1000000) :
    Calls Try.prog 35 #[.slice ao n cap] w fun e w' => ∃ g c', e = .returned (.slice (some ⟨g, 0, none⟩) (trm xs).length c') ∧ SrcG .i64 65536 w' (some ⟨g, 0, none⟩) (trm xs).length c' (trm xs) ∧ Below w.heap.size w w' := by
  refine (bare_at ao n cap xs w hs hn).mono ?_
  rintro e w1 ⟨g, c', h1, h2, h3, _⟩
  exact ⟨g, c', h1, h2, h3⟩

end Go.Proofs.Ytobdpcmafjhnlaa
