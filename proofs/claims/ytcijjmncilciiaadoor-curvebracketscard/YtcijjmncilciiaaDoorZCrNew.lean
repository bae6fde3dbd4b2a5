/-
  The document's New: the field modulo p.
-/
import Derived.Test.YtcijjmncilciiaaDoorZCrFrom
namespace Go.Proofs.YtcijjmncilciiaaDoor
open Go.RowKit Go.IntWalk
attribute [local go_sem ↓] ld_F st_F eq_F

def oneW : List Int := [1, 0, 0, 4294967295, 4294967295, 4294967295, 4294967294, 0]
def sqW : List Int := [3, 0, 4294967295, 4294967291, 4294967294, 4294967295, 4294967293, 4]
theorem fw_oneW : Fw oneW ONE := ⟨rfl, by intro x hx; simp [oneW] at hx; omega, by decide⟩
theorem fw_sqW : Fw sqW SQ := ⟨rfl, by intro x hx; simp [sqW] at hx; omega, by decide⟩

def sqk (k : Nat) : Int := ONE * 2 ^ k % PP
theorem sqk_next (k : Nat) : pa (sqk k) (sqk k) = sqk (k + 1) := by
  unfold pa sqk
  rw [← Int.add_emod, Int.pow_succ]
  congr 1
  grind
theorem sqk_0 : sqk 0 = ONE := by decide
theorem sqk_256 : sqk 256 = SQ := by decide

/-- A field's cells. -/
def fdL (O S : List Int) (l : Int) : List Value := fV pW ++ fV O ++ fV S ++ [.int .u64 l]

structure Fd (W : World) (g : Nat) (O S : List Int) (l : Int) : Prop where
  blk : Blk 89 W g (fdL O S l)
  lo : O.length = 8
  ls : S.length = 8
theorem Fd.below {W V : World} {g : Nat} {O S : List Int} {l : Int} (h : Fd W g O S l) (b : Below W.heap.size W V) : Fd V g O S l := ⟨h.blk.below b, h.lo, h.ls⟩
theorem Fd.heap {W V : World} {g : Nat} {O S : List Int} {l : Int} (h : Fd W g O S l) (e : V.heap = W.heap) : Fd V g O S l := ⟨h.blk.heap e, h.lo, h.ls⟩
theorem Fd.fm {W : World} {g : Nat} {O S : List Int} {l : Int} (h : Fd W g O S l) : FM W g := by
  have hb := h.blk
  unfold fdL at hb
  rw [List.append_assoc, List.append_assoc] at hb
  have := Blk.range (A := []) (X := fV pW) (C := fV O ++ (fV S ++ [.int .u64 l])) (by simpa using hb) 0 rfl
  exact this
theorem Fd.low {W : World} {g : Nat} {O S : List Int} {l : Int} (h : Fd W g O S l) : W.cell? ⟨g, 24, none⟩ = some (.int .u64 l) := by
  rw [h.blk.cell]
  have h1 := h.lo
  have h2 := h.ls
  simp [fdL, fV, pW, h1, h2]
theorem Fd.ldOne {W : World} {g : Nat} {O S : List Int} {l : Int} (h : Fd W g O S l) : (ldA 80 (.pointer (some ⟨g, 8, none⟩))).run Tryd.prog W = .ok (.agg (fV O).toArray) W := by
  have hb := h.blk
  unfold fdL at hb
  rw [List.append_assoc] at hb
  exact ldA_mid (A := fV pW) (X := fV O) Tryd.underlying80 rfl (by rw [fV_len, h.lo]; exact info_F) hb rfl
theorem Fd.ldSq {W : World} {g : Nat} {O S : List Int} {l : Int} (h : Fd W g O S l) : (ldA 80 (.pointer (some ⟨g, 16, none⟩))).run Tryd.prog W = .ok (.agg (fV S).toArray) W :=
  ldA_mid (A := fV pW ++ fV O) (X := fV S) Tryd.underlying80 rfl (by rw [fV_len, h.ls]; exact info_F) h.blk (by rw [List.length_append, fV_len, fV_len, h.lo]; rfl)
theorem Fd.stOne {W : World} {g : Nat} {O S R : List Int} {l : Int} (h : Fd W g O S l) (hR : R.length = 8) : (stA 80 (.pointer (some ⟨g, 8, none⟩)) (.agg (fV R).toArray)).run Tryd.prog W = .ok () (W.setCells g 8 (fV R)) ∧ Fd (W.setCells g 8 (fV R)) g R S l := by
  have hb := h.blk
  unfold fdL at hb
  rw [List.append_assoc] at hb
  refine ⟨stA_mid (A := fV pW) (X := fV O) (by rw [fV_len, hR]; exact info_F) hb rfl (by rw [fV_len, fV_len, h.lo, hR]) (ints_one _ _), ?_, hR, h.ls⟩
  unfold fdL
  rw [List.append_assoc]
  exact Blk.mid (fV pW) (fV O) _ (fV R) 8 W hb rfl (by rw [fV_len, fV_len, h.lo, hR])
theorem Fd.stSq {W : World} {g : Nat} {O S R : List Int} {l : Int} (h : Fd W g O S l) (hR : R.length = 8) : (stA 80 (.pointer (some ⟨g, 16, none⟩)) (.agg (fV R).toArray)).run Tryd.prog W = .ok () (W.setCells g 16 (fV R)) ∧ Fd (W.setCells g 16 (fV R)) g O R l := by
  have hl : (fV pW ++ fV O).length = 16 := by rw [List.length_append, fV_len, fV_len, h.lo]; rfl
  refine ⟨stA_mid (A := fV pW ++ fV O) (X := fV S) (by rw [fV_len, hR]; exact info_F) h.blk hl (by rw [fV_len, fV_len, h.ls, hR]) (ints_one _ _), ?_, h.lo, hR⟩
  exact Blk.mid (fV pW ++ fV O) (fV S) _ (fV R) 16 W h.blk hl (by rw [fV_len, fV_len, h.ls, hR])
theorem Fd.stLow {W : World} {g : Nat} {O S : List Int} {l : Int} (h : Fd W g O S l) (u : Int) : Fd (W.setCell ⟨g, 24, none⟩ (.int .u64 u)) g O S u := by
  refine ⟨?_, h.lo, h.ls⟩
  have := h.blk.set 24 (.int .u64 u)
  have hl : (fV pW ++ fV O ++ fV S).length = 24 := by rw [List.length_append, List.length_append, fV_len, fV_len, fV_len, h.lo, h.ls]; rfl
  have e : (fdL O S l).set 24 (.int .u64 u) = fdL O S u := by
    unfold fdL
    rw [List.set_append_right _ _ (by omega), hl]
    rfl
  rw [e] at this
  exact this

def bdF (t : TypeId) (ps : Array (Nat × Value)) : Sem Value := Instr.build t ps
theorem bd_fld (ps : Array (Nat × Value)) : Instr.build 89 ps = bdF 89 ps := rfl
theorem bd_f8 (ps : Array (Nat × Value)) : Instr.build 80 ps = bdF 80 ps := rfl
attribute [local go_sem ↓] bd_fld bd_f8
theorem bdF_fld (w : World) : (bdF 89 #[(0, .agg (fV pW).toArray)]).run Tryd.prog w = .ok (.agg (fdL z8 z8 0).toArray) w := by kernel_rfl
theorem bdF_f8 (w : World) : (bdF 80 #[]).run Tryd.prog w = .ok (.agg (fV z8).toArray) w := by kernel_rfl

theorem fdL_one (O S : List Int) (l : Int) : ∀ v ∈ fdL O S l, v.oneCell' = true := by
  intro v hv
  simp only [fdL, fV, List.mem_append, List.mem_map, List.mem_singleton] at hv
  rcases hv with ((⟨x, _, rfl⟩ | ⟨x, _, rfl⟩) | ⟨x, _, rfl⟩) | rfl <;> rfl

def xs5 : List Int := [1, 3, 15, 255, 65535, 4294967295]

/-- What stays while New runs. -/
structure Ky (w : World) (W : World) : Prop where
  kp : Blk 80 W w.heap.size (fV pW)
  fm : FM W (w.heap.size + 1)
  bl : Below w.heap.size w W
theorem Ky.below {w W V : World} (h : Ky w W) (b : Below W.heap.size W V) : Ky w V := ⟨h.kp.below b, h.fm.below b, below_then h.bl b⟩
theorem Ky.drew {w W : World} (h : Ky w W) : Ky w W.drew := ⟨h.kp.heap rfl, h.fm.heap rfl, Drew.below (by exact ⟨rfl, rfl, rfl, rfl⟩) h.bl⟩
theorem Ky.setsF {w W : World} (h : Ky w W) {O S : List Int} {l : Int} (o : Nat) (vs : List Value) (hF : Fd (W.setCells (w.heap.size + 1) o vs) (w.heap.size + 1) O S l) : Ky w (W.setCells (w.heap.size + 1) o vs) :=
  ⟨h.kp.other (by omega), hF.fm, below_sets h.bl (by omega) h.bl.size _ _⟩

set_option maxRecDepth 100000 in
set_option maxHeartbeats 4000000 in
theorem rnew_any (w : World) :
    Calls Tryd.prog 39 #[.agg (fV pW).toArray] w fun e w' => ∃ gf, e = .returned (.pointer (some ⟨gf, 0, none⟩)) ∧ w.heap.size ≤ gf ∧ Fd w' gf oneW sqW 1 ∧ Below w.heap.size w w' := by
  have HMI : Hid (∀ W, Calls Tryd.prog 69 #[.agg (fV z8).toArray, .agg (fV pW).toArray] W (Rm 0 PP W)) := fun W => rminus_any z8 pW 0 PP fw_z8 fw_pW W
  have HLP : Hid (∀ W, Blk 80 W w.heap.size (fV pW) → (ldA 80 (.pointer (some ⟨w.heap.size, 0, none⟩))).run Tryd.prog W = .ok (.agg (fV pW).toArray) W) := fun W h => ldF rfl h
  have hone : ∀ v ∈ fV pW, v.oneCell' = true := ints_one _ _
  have l0 := HLP.out _ (Blk.new w (fV pW) _ _ rfl rfl)
  have hbd := bdF_fld
  have hb8 := bdF_f8
  have hone2 := fdL_one z8 z8 0
  have K0 : Hid (Blk 80 ((w.alloc (.cells (fV pW).toArray 80)).alloc (.cells (fdL z8 z8 0).toArray 89)) w.heap.size (fV pW)) := (Blk.new w _ _ _ rfl rfl).alloc _
  have F0 : Hid (Fd ((w.alloc (.cells (fV pW).toArray 80)).alloc (.cells (fdL z8 z8 0).toArray 89)) (w.heap.size + 1) z8 z8 0) := ⟨Blk.new _ _ _ _ rfl (by simp), rfl, rfl⟩
  have U0 := hide (below2 w (.cells (fV pW).toArray 80) (.cells (fdL z8 z8 0).toArray 89))
  have c00 : (fV pW)[0]? = some (.int .u64 4294967295) := rfl
  obtain ⟨LP, hLP⟩ : ∃ L, fV pW = L := ⟨_, rfl⟩
  obtain ⟨LF, hLF⟩ : ∃ L, fdL z8 z8 0 = L := ⟨_, rfl⟩
  have HLPe := hide hLP
  rw [hLP] at l0 hbd c00 HMI HLP hone K0 F0 U0 ⊢
  rw [hLF] at hbd hone2 K0 F0 U0
  clear hLP hLF
  go_enter Tryd.func39, Tryd.ntmps39
  go_wp2
  go_loopw [4, 5] (fun xv iv wr => ∃ (k : Nat), iv = .int .i64 (k : Int) ∧ k ≤ 5 ∧ xv = .int .u64 (xs5.getD k 0) ∧ wr = (w.alloc (.cells LP.toArray 80)).alloc (.cells LF.toArray 89)) (fun _ iv _ => 5 - (intOf iv).toNat)
  case atStart => exact ⟨0, rfl, by omega, rfl, rfl⟩
  case round =>
    obtain ⟨k, rfl, hk, rfl, rfl⟩ := hrel
    by_cases hk5 : k < 5
    · rcases k with _ | _ | _ | _ | _ | k
      · go_wp2
        exact ⟨⟨1, by go_num, by omega, rfl, by trivial⟩, by simp [intOf]⟩
      · go_wp2
        exact ⟨⟨2, by go_num, by omega, rfl, by trivial⟩, by simp [intOf]⟩
      · go_wp2
        exact ⟨⟨3, by go_num, by omega, rfl, by trivial⟩, by simp [intOf]⟩
      · go_wp2
        exact ⟨⟨4, by go_num, by omega, rfl, by trivial⟩, by simp [intOf]⟩
      · go_wp2
        exact ⟨⟨5, by go_num, by omega, rfl, by trivial⟩, by simp [intOf]⟩
      · omega
    · obtain rfl : k = 5 := by omega
      generalize (w.alloc (.cells LP.toArray 80)).alloc (.cells LF.toArray 89) = V at K0 F0 U0 ⊢
      have hLPe := HLPe.out
      subst hLPe
      have cl := F0.out.low
      have fl := F0.out.blk.frozen 24
      have F1 := F0.out.stLow 1
      have Y1 : Ky w (V.setCell ⟨w.heap.size + 1, 24, none⟩ (.int .u64 1)) := ⟨K0.out.kept (gSet _ _ _ _) (by simp), F1.fm, U0.out.setCell (by show w.heap.size ≤ w.heap.size + 1; omega) _⟩
      have lp1 := HLP.out _ Y1.kp
      have HF1 := hide F1
      have HY1 := hide Y1
      clear F1 Y1 K0 F0 U0 l0 hbd hone2 c00
      simp only [xs5, List.getD_cons_succ, List.getD_cons_zero]
      go_wp2_with fail
      refine (HMI.out _).mono ?_
      rintro e w2 ⟨R, rfl, hR, LW⟩
      rw [if_pos (by decide : (0 : Int) < PP)] at hR
      have hRe : R = oneW := (hR.inj fw_oneW).2 (by decide)
      subst hRe
      have F2 := HF1.out.below LW
      have Y2 := HY1.out.below LW
      obtain ⟨hs2, F3⟩ := F2.stOne (R := oneW) rfl
      have Y3 := Y2.setsF _ _ F3
      have lo3 := F3.ldOne
      obtain ⟨hs3, F4⟩ := F3.stSq (R := oneW) rfl
      have Y4 := Y3.setsF _ _ F4
      have HF4 := hide F4
      have HY4 := hide Y4
      clear LW F2 Y2 F3 Y3 F4 Y4 hR cl fl lp1 HF1 HY1
      generalize hOW : oneW = OW at *
      go_wp2
      have HS0 : Hid (Fw OW (sqk 0)) := by unfold Hid; rw [sqk_0, ← hOW]; exact fw_oneW
      have HOW := hide hOW
      clear hOW hs2 lo3 hs3
      generalize ((w2.setCells (w.heap.size + 1) 8 (fV OW)).setCells (w.heap.size + 1) 16 (fV OW)) = W4 at HF4 HY4 ⊢
      go_loopw [6] (fun iv wr => ∃ (k : Nat) (S : List Int), iv = .int .i64 (k : Int) ∧ k ≤ 256 ∧ Hid (Fw S (sqk k)) ∧ Hid (Fd wr (w.heap.size + 1) OW S 1) ∧ Hid (Ky w wr)) (fun iv _ => 256 - (intOf iv).toNat)
      case atStart => exact ⟨0, OW, rfl, by omega, HS0, HF4, HY4⟩
      case round =>
        clear HS0 HF4 HY4
        obtain ⟨k, S, rfl, hk, HS, HF, HY⟩ := hrel
        by_cases hk256 : k < 256
        · have hlt : sqk k < PP := (md_bd _).2
          have HAD : Hid (∀ W, FM W (w.heap.size + 1) → Calls Tryd.prog 42 #[.pointer (some ⟨w.heap.size + 1, 0, none⟩), .agg (fV S).toArray, .agg (fV S).toArray] W (Rf (sqk (k + 1)) W)) := by
            intro W hW
            have := radd_any (w.heap.size + 1) S S (sqk k) (sqk k) HS.out HS.out hlt hlt W hW
            rw [sqk_next] at this
            exact this
          have kb : (k : Int) ≤ 255 := by omega
          clear hlt
          go_wp2
          refine wp_region_held_drew (S := Ky w) (by kernel_rfl) HY.out.drew (fun hY0 => ?_)
          have HF0 := hide (HF.out.heap (V := wr.drew) rfl)
          generalize wr.drew = V1 at hY0 HF0 ⊢
          have hls := HF0.out.ldSq
          clear HF HY
          refine wpAnyH_take (i := 0) (v := ?_) rfl (by kernel_rfl) (by kernel_rfl) (by kernel_rfl) (fun _ _ _ h => h) (Or.inl ⟨by rfl, ?_⟩) (by assumption) ?_
          rotate_left
          · intro wq hSq
            go_simp
            try with_reducible rfl
          simp only [List.getElem_toArray, List.getElem_cons_zero, Act.put, List.setIfInBounds_toArray, List.set_cons_zero, List.set_cons_succ]
          refine wpAnyH_take (i := 1) (v := ?_) rfl (by kernel_rfl) (by kernel_rfl) (by kernel_rfl) (fun _ _ _ h => h) (Or.inl ⟨by rfl, ?_⟩) (by assumption) ?_
          rotate_left
          · intro wq hSq
            go_simp
            try with_reducible rfl
          simp only [List.getElem_toArray, List.getElem_cons_succ, List.getElem_cons_zero, Act.put, List.setIfInBounds_toArray, List.set_cons_zero, List.set_cons_succ]
          refine wpAnyH_take (i := 2) (v := ?_) rfl (by kernel_rfl) (by kernel_rfl) (by kernel_rfl) (fun _ _ _ h => h) (Or.inl ⟨by rfl, ?_⟩) (by assumption) ?_
          rotate_left
          · intro wq hSq
            go_simp
            try with_reducible rfl
          simp only [List.getElem_toArray, List.getElem_cons_succ, List.getElem_cons_zero, Act.put, List.setIfInBounds_toArray, List.set_cons_zero, List.set_cons_succ]
          refine wpAnyH_take (i := 3) (v := ?_) rfl (by kernel_rfl) (by kernel_rfl) (by kernel_rfl) (fun _ _ _ h => h) (Or.inl ⟨by rfl, ?_⟩) (by assumption) ?_
          rotate_left
          · intro wq hSq
            go_simp
            try with_reducible rfl
          simp only [List.getElem_toArray, List.getElem_cons_succ, List.getElem_cons_zero, Act.put, List.setIfInBounds_toArray, List.set_cons_zero, List.set_cons_succ]
          refine wpAnyH_take (i := 4) (v := ?_) rfl (by kernel_rfl) (by kernel_rfl) (by kernel_rfl) (fun _ _ _ h => h) (Or.inl ⟨by rfl, ?_⟩) (by assumption) ?_
          rotate_left
          · intro wq hSq
            go_simp
            try with_reducible rfl
          simp only [List.getElem_toArray, List.getElem_cons_succ, List.getElem_cons_zero, Act.put, List.setIfInBounds_toArray, List.set_cons_zero, List.set_cons_succ]
          refine wpAnyH_take (i := 6) (v := ?_) rfl (by kernel_rfl) (by kernel_rfl) (by kernel_rfl) (fun _ _ _ h => h) (Or.inl ⟨by rfl, ?_⟩) (by assumption) ?_
          rotate_left
          · intro wq hSq
            go_simp
            try with_reducible rfl
          simp only [List.getElem_toArray, List.getElem_cons_succ, List.getElem_cons_zero, Act.put, List.setIfInBounds_toArray, List.set_cons_zero, List.set_cons_succ]
          refine wpAnyH_take (i := 7) (v := ?_) rfl (by kernel_rfl) (by kernel_rfl) (by kernel_rfl) (fun _ _ _ h => h) (Or.inl ⟨by rfl, ?_⟩) (by assumption) ?_
          rotate_left
          · intro wq hSq
            go_simp
            try with_reducible rfl
          simp only [List.getElem_toArray, List.getElem_cons_succ, List.getElem_cons_zero, Act.put, List.setIfInBounds_toArray, List.set_cons_zero, List.set_cons_succ]
          refine wpAnyH_take (i := 8) (v := ?_) rfl (by kernel_rfl) (by kernel_rfl) (by kernel_rfl) (fun _ _ _ h => h) (Or.inl ⟨by rfl, ?_⟩) (by assumption) ?_
          rotate_left
          · intro wq hSq
            go_simp
            try with_reducible rfl
          simp only [List.getElem_toArray, List.getElem_cons_succ, List.getElem_cons_zero, Act.put, List.setIfInBounds_toArray, List.set_cons_zero, List.set_cons_succ]
          refine wpAnyH_ready (rs := [5, 9]) (by kernel_rfl) (by simp) ?_
          refine AllReadyH.cons rfl (fun Kq hKq => ?_) (AllReadyH.cons rfl (fun Kq hKq => ?_) AllReadyH.nil)
          · go_simp
            refine hKq.out _ _ hY0 (fun _ => ?_)
            clear hKq Kq
            refine wpAnyH_ready (rs := [9]) (by kernel_rfl) (by simp) ?_
            refine AllReadyH.cons rfl (fun Kq hKq => ?_) AllReadyH.nil
            go_simp
            refine hKq.out _ _ hY0 (fun _ => ?_)
            clear hKq Kq
            refine wpAnyH_ready (rs := [10]) (by kernel_rfl) (by simp) ?_
            refine AllReadyH.cons rfl (fun Kq hKq => ?_) AllReadyH.nil
            go_simp
            refine (HAD.out _ hY0.fm).mono ?_
            rintro e w6 ⟨R, rfl, hR, LW⟩
            have HR := hide hR
            have hY6 := hY0.below LW
            have F6 := HF0.out.below LW
            clear LW hY0
            refine hKq.out _ _ hY6 (fun _ => ?_)
            clear hKq Kq hls
            obtain ⟨hst, F7⟩ := F6.stSq hR.len
            refine wpAnyH_take (i := 11) (v := ?_) rfl (by kernel_rfl) (by kernel_rfl) (by kernel_rfl) (fun _ _ _ h => h) (Or.inl ⟨by rfl, ?_⟩) (by assumption) ?_
            rotate_left
            · intro wq hSq
              go_simp
              try with_reducible rfl
            simp only [List.getElem_toArray, List.getElem_cons_succ, List.getElem_cons_zero, Act.put, List.setIfInBounds_toArray, List.set_cons_zero, List.set_cons_succ]
            refine wpAnyH_take (i := 12) (v := ?_) rfl (by kernel_rfl) (by kernel_rfl) (by kernel_rfl) (fun _ _ _ h => h) (Or.inl ⟨by rfl, ?_⟩) (by assumption) ?_
            rotate_left
            · intro wq hSq
              go_simp
              try with_reducible rfl
            simp only [List.getElem_toArray, List.getElem_cons_succ, List.getElem_cons_zero, Act.put, List.setIfInBounds_toArray, List.set_cons_zero, List.set_cons_succ]
            refine wpAnyH_ready (rs := [13]) (by kernel_rfl) (by simp) ?_
            refine AllReadyH.cons rfl (fun Kq hKq => ?_) AllReadyH.nil
            go_simp
            have hY7 := hY6.setsF _ _ F7
            refine hKq.out _ _ hY7 (fun _ => ?_)
            clear hKq Kq hst
            refine wpAnyH_done (by kernel_rfl) ?_ _
            generalize w6.setCells (w.heap.size + 1) 16 (fV R) = W7 at hY7 F7 ⊢
            have HF7 := hide F7
            have HY7 := hide hY7
            clear F7 hY7 F6 hY6 hR
            go_wp2
            exact ⟨⟨k + 1, R, by go_num, by omega, HR, HF7, HY7⟩, by simp [intOf]; omega⟩
          · go_simp
            refine hKq.out _ _ hY0 (fun _ => ?_)
            clear hKq Kq
            refine wpAnyH_ready (rs := [5]) (by kernel_rfl) (by simp) ?_
            refine AllReadyH.cons rfl (fun Kq hKq => ?_) AllReadyH.nil
            go_simp
            refine hKq.out _ _ hY0 (fun _ => ?_)
            clear hKq Kq
            refine wpAnyH_ready (rs := [10]) (by kernel_rfl) (by simp) ?_
            refine AllReadyH.cons rfl (fun Kq hKq => ?_) AllReadyH.nil
            go_simp
            refine (HAD.out _ hY0.fm).mono ?_
            rintro e w6 ⟨R, rfl, hR, LW⟩
            have HR := hide hR
            have hY6 := hY0.below LW
            have F6 := HF0.out.below LW
            clear LW hY0
            refine hKq.out _ _ hY6 (fun _ => ?_)
            clear hKq Kq hls
            obtain ⟨hst, F7⟩ := F6.stSq hR.len
            refine wpAnyH_take (i := 11) (v := ?_) rfl (by kernel_rfl) (by kernel_rfl) (by kernel_rfl) (fun _ _ _ h => h) (Or.inl ⟨by rfl, ?_⟩) (by assumption) ?_
            rotate_left
            · intro wq hSq
              go_simp
              try with_reducible rfl
            simp only [List.getElem_toArray, List.getElem_cons_succ, List.getElem_cons_zero, Act.put, List.setIfInBounds_toArray, List.set_cons_zero, List.set_cons_succ]
            refine wpAnyH_take (i := 12) (v := ?_) rfl (by kernel_rfl) (by kernel_rfl) (by kernel_rfl) (fun _ _ _ h => h) (Or.inl ⟨by rfl, ?_⟩) (by assumption) ?_
            rotate_left
            · intro wq hSq
              go_simp
              try with_reducible rfl
            simp only [List.getElem_toArray, List.getElem_cons_succ, List.getElem_cons_zero, Act.put, List.setIfInBounds_toArray, List.set_cons_zero, List.set_cons_succ]
            refine wpAnyH_ready (rs := [13]) (by kernel_rfl) (by simp) ?_
            refine AllReadyH.cons rfl (fun Kq hKq => ?_) AllReadyH.nil
            go_simp
            have hY7 := hY6.setsF _ _ F7
            refine hKq.out _ _ hY7 (fun _ => ?_)
            clear hKq Kq hst
            refine wpAnyH_done (by kernel_rfl) ?_ _
            generalize w6.setCells (w.heap.size + 1) 16 (fV R) = W7 at hY7 F7 ⊢
            have HF7 := hide F7
            have HY7 := hide hY7
            clear F7 hY7 F6 hY6 hR
            go_wp2
            exact ⟨⟨k + 1, R, by go_num, by omega, HR, HF7, HY7⟩, by simp [intOf]; omega⟩
        · obtain rfl : k = 256 := by omega
          have hS := HS.out
          rw [sqk_256] at hS
          have hSe : S = sqW := (hS.inj fw_sqW).2 rfl
          subst hSe
          have hOe := HOW.out
          subst hOe
          clear hS HS
          go_wp2
          go_ret
          exact ⟨w.heap.size + 1, rfl, by omega, HF.out, HY.out.bl⟩

end Go.Proofs.YtcijjmncilciiaaDoor
