/-
  The document's Check.
-/
import Derived.Deep.RegionHeld3
import Derived.Test.YtklchpdpooikdaaGreatDoorYHoNmToWiChkW
import Derived.Test.YtklchpdpooikdaaGreatDoorYWiRSom
namespace Go.Proofs.YtklchpdpooikdaaGreatDoor
open Go.RowKit Go.IntWalk Go.Shelf

theorem idxF_step (p : Int × ByteArray → Bool) (xs : List (Int × ByteArray)) (k : Nat) (h : k < xs.length) (X : Int) (hX : X = idxF p k (xs.drop k)) : (p (xs.getD k (0, ByteArray.empty)) = true → X = (k : Int)) ∧ (p (xs.getD k (0, ByteArray.empty)) = false → X = idxF p (k + 1) (xs.drop (k + 1))) := by
  rw [hX, idxF_at p xs k h]
  refine ⟨fun e => by rw [if_pos e], fun e => by rw [if_neg (by rw [e]; decide)]⟩
theorem getD_app1 (xs ys : List (Int × ByteArray)) (k : Nat) (h : k < xs.length) : (xs ++ ys).getD k (0, ByteArray.empty) = xs.getD k (0, ByteArray.empty) := by
  simp only [List.getD]; rw [List.getElem?_append_left h]
theorem getD_app2 (xs ys : List (Int × ByteArray)) (k : Nat) : (xs ++ ys).getD (xs.length + k) (0, ByteArray.empty) = ys.getD k (0, ByteArray.empty) := by
  simp only [List.getD]; rw [List.getElem?_append_right (by omega)]; congr 2; omega
structure Cel4 (b o B : Nat) (t : Int) (s : ByteArray) (gk : Int) (g : ByteArray) (W : World) : Prop where
  s0 : W.cell? ⟨b, o, none⟩ = some (.int .i64 t)
  s1 : W.cell? ⟨b, o + 1, none⟩ = some (.string s)
  g0 : W.cell? ⟨B, 0, none⟩ = some (.int .i64 gk)
  g1 : W.cell? ⟨B, 1, none⟩ = some (.string g)
theorem Cel4.below {b o B : Nat} {t : Int} {s : ByteArray} {gk : Int} {g : ByteArray} {A C : World} (h : Cel4 b o B t s gk g A) (hb : Below A.heap.size A C) : Cel4 b o B t s gk g C :=
  ⟨(hb.cell (lt_of_cell h.s0)).trans h.s0, (hb.cell (lt_of_cell h.s1)).trans h.s1, (hb.cell (lt_of_cell h.g0)).trans h.g0, (hb.cell (lt_of_cell h.g1)).trans h.g1⟩

def CntP (p : Int × ByteArray → Bool) (xs : List (Int × ByteArray)) (X : Int) (mn r : Nat) : Prop := (mn = 0 → X = idxF p r (xs.drop r)) ∧ (0 < mn → 0 ≤ X)
theorem CntP.yes {p : Int × ByteArray → Bool} {xs : List (Int × ByteArray)} {X : Int} {mn r : Nat} (h : CntP p xs X mn r) (hr : r < xs.length) (hp : p (xs.getD r (0, ByteArray.empty)) = true) : CntP p xs X (mn + 1) (r + 1) := by
  refine ⟨fun e => by omega, fun _ => ?_⟩
  rcases Nat.eq_zero_or_pos mn with h0 | h0
  · rw [(idxF_step p xs r hr X (h.1 h0)).1 hp]; omega
  · exact h.2 h0
theorem CntP.no {p : Int × ByteArray → Bool} {xs : List (Int × ByteArray)} {X : Int} {mn r : Nat} (h : CntP p xs X mn r) (hr : r < xs.length) (hp : p (xs.getD r (0, ByteArray.empty)) = false) : CntP p xs X mn (r + 1) :=
  ⟨fun e => (idxF_step p xs r hr X (h.1 e)).2 hp, h.2⟩
theorem CntP.all {p : Int × ByteArray → Bool} {xs : List (Int × ByteArray)} {X : Int} {mn : Nat} (h : CntP p xs X mn xs.length) : (0 ≤ X ↔ 0 < mn) := by
  constructor
  · intro hx
    rcases Nat.eq_zero_or_pos mn with h0 | h0
    · have := h.1 h0
      rw [List.drop_eq_nil_of_le (Nat.le_refl _)] at this
      have e : idxF p xs.length [] = -1 := rfl
      omega
    · exact h0
  · exact h.2

set_option maxRecDepth 100000 in
set_option maxHeartbeats 4000000 in
theorem refCheck_any (a1 : Option Addr) (n1 c1 : Nat) (ps : List (Int × ByteArray)) (a2 : Option Addr) (n2 c2 : Nat) (es : List (Int × ByteArray)) (gk : Int) (g : List UInt8) (hg : g.length ≤ 1048576) (w : World) (hP : RowIn w a1 n1 c1 ps) (hE : RowIn w a2 n2 c2 es) :
    Calls Tryz.prog 8 #[.slice a1 n1 c1, .slice a2 n2 c2, .agg #[.int .i64 gk, .string (tx g)]] w fun e w' => e = .returned (.tuple #[.int .i64 (chkV ps es gk g).1, .int .i64 (chkV ps es gk g).2]) ∧ Below w.heap.size w w' := by
  have BX := nbelowW w (.cells #[.int .i64 gk, .string (tx g)] 32)
  have x0 : (w.alloc (.cells #[.int .i64 gk, .string (tx g)] 32)).cell? ⟨w.heap.size, 0, none⟩ = some (.int .i64 gk) := by simp
  have x1 : (w.alloc (.cells #[.int .i64 gk, .string (tx g)] 32)).cell? ⟨w.heap.size, 1, none⟩ = some (.string (tx g)) := by simp
  have d1 := hide (fun W => rgen_any gk g hg W)
  unfold genP at d1
  have HP := hide hP
  have HE := hide hE
  have HB := hide BX
  have hl1 := hP.ats.hl
  have hl2 := hE.ats.hl
  have hn1 := hP.hn
  have hn2 := hE.hn
  have hc1 := hP.ats.hcap
  have hc2 := hE.ats.hcap
  have n1I : (n1 : Int) ≤ 2097152 := by omega
  have n2I : (n2 : Int) ≤ 2097152 := by omega
  have HL1 := hide hl1
  have HL2 := hide hl2
  clear hP hE BX
  cases hM : mayG gk g with
  | false =>
    have HV : Hid (chkV ps es gk g = (0, 130)) := by unfold Hid chkV; rw [if_pos hM]
    rw [hM] at d1
    clear hM
    go_enter Tryz.func8, Tryz.ntmps8
    go_wp2_with fail
    refine (d1.out _).mono ?_
    rintro e w1 ⟨rfl, B1⟩
    go_wp2
    refine bodyPost_ret (v := .tuple #[.int .i64 0, .int .i64 130]) (by simp [results, Tryz.results8, go_sem]) rfl ⟨by rw [HV.out], HB.out.trans (B1.mono HB.out.size)⟩
  | true =>
    have hV0 : Hid (chkV ps es gk g = if 0 ≤ idxT notP (ps ++ es) then (idxT notP (ps ++ es), 140) else
      if 0 ≤ idxT (kindP gk) ps ∧ ¬ 0 ≤ idxT (takesP gk g) ps then (0, 141) else if 0 ≤ idxT (meetP gk g) es then (idxT (meetP gk g) es, 142) else (0, 0)) := by unfold Hid chkV; rw [if_neg (by rw [hM]; decide)]
    have HM := hide hM
    rw [hM] at d1
    clear hM
    obtain ⟨V, hV⟩ : ∃ V, chkV ps es gk g = V := ⟨_, rfl⟩
    rw [hV] at hV0 ⊢
    clear hV
    obtain ⟨N, hN⟩ : ∃ N, idxT notP (ps ++ es) = N := ⟨_, rfl⟩
    rw [hN] at hV0
    have HN := hide hN
    clear hN
    go_enter Tryz.func8, Tryz.ntmps8
    go_wp2_with fail
    refine (d1.out _).mono ?_
    rintro e w1 ⟨rfl, B1⟩
    have y0 := hide ((B1.cell (lt_of_cell x0)).trans x0)
    have y1 := hide ((B1.cell (lt_of_cell x1)).trans x1)
    have HB1 := hide (HB.out.trans (B1.mono HB.out.size))
    have HP1 := hide (HP.out.below HB1.out)
    have HE1 := hide (HE.out.below HB1.out)
    clear d1 B1 HB x0 x1 HP HE
    go_wp2
    go_loopw [8] (fun i wr => ∃ k : Nat, i = .int .i64 k ∧ k ≤ n1 ∧ Hid (N = idxF notP k ((ps ++ es).drop k)) ∧ Hid (∀ j, j < k → mayW (ps.getD j (0, ByteArray.empty)).1 (ps.getD j (0, ByteArray.empty)).2.data.toList = true) ∧ Below w1.heap.size w1 wr) (fun i _ => n1 - (intOf i).toNat)
    case atStart => exact ⟨0, rfl, Nat.zero_le _, HN.out.symm, fun j hj => absurd hj (by omega), Below.refl _ _⟩
    case round =>
      obtain ⟨k, rfl, hk, hE1, hJ, hB⟩ := hrel
      have HBr := hide (HB1.out.trans (hB.mono HB1.out.size))
      by_cases hlt : k < n1
      · have ltI : (k : Int) < (n1 : Int) := by omega
        obtain ⟨b, off, rfl, hcl⟩ := (HP1.out.below hB).ats.hrd (by omega)
        obtain ⟨e0, e1⟩ := hcl k hlt
        have hst := hide (idxF_step notP (ps ++ es) k (by rw [List.length_append]; omega) N hE1.out)
        rw [getD_app1 ps es k (by omega)] at hst
        have hmem : ps.getD k (0, ByteArray.empty) ∈ ps := getD_mem (by omega)
        have hlen := HP1.out.len hmem
        have hJ2 : Hid (mayW (ps.getD k (0, ByteArray.empty)).1 (ps.getD k (0, ByteArray.empty)).2.data.toList = true → ∀ j, j < k + 1 → mayW (ps.getD j (0, ByteArray.empty)).1 (ps.getD j (0, ByteArray.empty)).2.data.toList = true) := fun h j hj => by
          by_cases hjk : j < k
          · exact hJ.out j hjk
          · obtain rfl : j = k := by omega
            exact h
        generalize ps.getD k (0, ByteArray.empty) = x at e0 e1 hst hlen hJ2 hmem
        obtain ⟨t, s⟩ := x
        simp only [] at e0 e1 hlen hJ2
        have hc := hide (fun W => rmayT_any t s.data.toList hlen W)
        have hnp : Hid (notP (t, s) = !mayW t s.data.toList) := rfl
        unfold mayP at hc
        have htx : tx s.data.toList = s := rfl
        rw [htx] at hc
        clear hcl hmem hlen htx
        generalize mayW t s.data.toList = q at hc hJ2 hnp
        cases q with
        | true =>
          have hN2 := hide (hst.out.2 hnp.out)
          have hJ3 := hide (hJ2.out rfl)
          clear hst hJ2 hnp hJ hE1
          go_wp2_with fail
          refine (hc.out _).mono ?_
          rintro e w2 ⟨rfl, B2⟩
          have hB2 := hB.trans (B2.mono hB.size)
          clear B2 hc
          go_wp2
          go_roundw
          case rel => exact ⟨k + 1, by go_num, by omega, hN2.out, hJ3.out, hB2⟩
          case measure => simp [intOf]; omega
        | false =>
          have hN2 := hst.out.1 hnp.out
          have hVV : Hid (V = ((k : Int), 140)) := by unfold Hid; rw [hV0.out, hN2, if_pos (by omega)]
          clear hst hJ2 hnp hJ hE1 hN2
          go_wp2_with fail
          refine (hc.out _).mono ?_
          rintro e w2 ⟨rfl, B2⟩
          go_wp2
          refine bodyPost_ret (v := .tuple #[.int .i64 k, .int .i64 140]) (by simp [results, Tryz.results8, go_sem]) rfl ⟨by rw [hVV.out], HBr.out.trans (B2.mono HBr.out.size)⟩
      · obtain rfl : k = n1 := by omega
        have nI : ¬ ((k : Int) < (k : Int)) := by omega
        obtain ⟨wo, rfl⟩ : ∃ wo : World, wo = wr := ⟨_, rfl⟩
        have HP2 := hide (HP1.out.below hB)
        have HE2 := hide (HE1.out.below hB)
        have y2 := hide ((hB.cell (lt_of_cell y0.out)).trans y0.out)
        have y3 := hide ((hB.cell (lt_of_cell y1.out)).trans y1.out)
        have hMP := hJ
        have hNk : Hid (N = idxF notP (k + 0) ((ps ++ es).drop (k + 0))) := hE1
        clear hE1 hJ hB HP1 HE1 y0 y1 HB1 HN hc1
        go_wp2
        go_loopw [9] (fun i wr => ∃ q : Nat, i = .int .i64 q ∧ q ≤ n2 ∧ Hid (N = idxF notP (k + q) ((ps ++ es).drop (k + q))) ∧ Hid (∀ j, j < q → mayW (es.getD j (0, ByteArray.empty)).1 (es.getD j (0, ByteArray.empty)).2.data.toList = true) ∧ Below wo.heap.size wo wr) (fun i _ => n2 - (intOf i).toNat)
        case atStart => exact ⟨0, rfl, Nat.zero_le _, hNk, fun j hj => absurd hj (by omega), Below.refl _ _⟩
        case round =>
          obtain ⟨q, rfl, hq, hE1, hJ, hB⟩ := hrel
          have HBs := hide (HBr.out.trans (hB.mono HBr.out.size))
          by_cases hlt : q < n2
          · have ltI : (q : Int) < (n2 : Int) := by omega
            obtain ⟨b, off, rfl, hcl⟩ := (HE2.out.below hB).ats.hrd (by omega)
            obtain ⟨e0, e1⟩ := hcl q hlt
            have hst := hide (idxF_step notP (ps ++ es) (k + q) (by rw [List.length_append]; omega) N hE1.out)
            have hgd := getD_app2 ps es q
            rw [HL1.out] at hgd
            rw [hgd] at hst
            have hmem : es.getD q (0, ByteArray.empty) ∈ es := getD_mem (by omega)
            have hlen := HE2.out.len hmem
            have hJ2 : Hid (mayW (es.getD q (0, ByteArray.empty)).1 (es.getD q (0, ByteArray.empty)).2.data.toList = true → ∀ j, j < q + 1 → mayW (es.getD j (0, ByteArray.empty)).1 (es.getD j (0, ByteArray.empty)).2.data.toList = true) := fun h j hj => by
              by_cases hjk : j < q
              · exact hJ.out j hjk
              · obtain rfl : j = q := by omega
                exact h
            clear hgd
            generalize es.getD q (0, ByteArray.empty) = x at e0 e1 hst hlen hJ2 hmem
            obtain ⟨t, s⟩ := x
            simp only [] at e0 e1 hlen hJ2
            have hc := hide (fun W => rmayT_any t s.data.toList hlen W)
            have hnp : Hid (notP (t, s) = !mayW t s.data.toList) := rfl
            unfold mayP at hc
            have htx : tx s.data.toList = s := rfl
            rw [htx] at hc
            clear hcl hmem hlen htx
            generalize mayW t s.data.toList = qb at hc hJ2 hnp
            cases qb with
            | true =>
              have hN2 := hide (hst.out.2 hnp.out)
              have hJ3 := hide (hJ2.out rfl)
              clear hst hJ2 hnp hJ hE1
              go_wp2_with fail
              refine (hc.out _).mono ?_
              rintro e w2 ⟨rfl, B2⟩
              have hB2 := hB.trans (B2.mono hB.size)
              clear B2 hc
              go_wp2
              go_roundw
              case rel => exact ⟨q + 1, by go_num, by omega, hN2.out, hJ3.out, hB2⟩
              case measure => simp [intOf]; omega
            | false =>
              have hN2 := hst.out.1 hnp.out
              have hVV : Hid (V = ((k : Int) + (q : Int), 140)) := by unfold Hid; rw [hV0.out, hN2, if_pos (by omega)]; simp
              clear hst hJ2 hnp hJ hE1 hN2
              go_wp2_with fail
              refine (hc.out _).mono ?_
              rintro e w2 ⟨rfl, B2⟩
              go_wp2
              refine bodyPost_ret (v := .tuple #[.int .i64 ((k : Int) + (q : Int)), .int .i64 140]) (by simp [results, Tryz.results8, go_sem]) rfl ⟨by rw [hVV.out], HBs.out.trans (B2.mono HBs.out.size)⟩
          · obtain rfl : q = n2 := by omega
            have nI2 : ¬ ((q : Int) < (q : Int)) := by omega
            obtain ⟨wp, rfl⟩ : ∃ wp : World, wp = wr := ⟨_, rfl⟩
            have HP3 := hide (HP2.out.below hB)
            have HE3 := hide (HE2.out.below hB)
            have y4 := hide ((hB.cell (lt_of_cell y2.out)).trans y2.out)
            have y5 := hide ((hB.cell (lt_of_cell y3.out)).trans y3.out)
            have hME := hJ
            have hN1 : N = -1 := by
              have h := hE1.out
              rw [List.drop_eq_nil_of_le (by rw [List.length_append]; omega)] at h
              exact h
            have hV1 : Hid (V = if 0 ≤ idxT (kindP gk) ps ∧ ¬ 0 ≤ idxT (takesP gk g) ps then (0, 141) else if 0 ≤ idxT (meetP gk g) es then (idxT (meetP gk g) es, 142) else (0, 0)) := by unfold Hid; rw [hV0.out, if_neg (by omega)]; try simp only [Int.not_le]
            obtain ⟨KI, hKI⟩ : ∃ X, idxT (kindP gk) ps = X := ⟨_, rfl⟩
            obtain ⟨TI, hTI⟩ : ∃ X, idxT (takesP gk g) ps = X := ⟨_, rfl⟩
            rw [hKI, hTI] at hV1
            have HKI := hide hKI
            have HTI := hide hTI
            clear hE1 hJ hB HP2 HE2 y2 y3 hV0 hN1 hKI hTI hNk
            go_wp2
            go_loopw [10, 11, 12] (fun u v i wr => ∃ r mn nn : Nat, u = .int .i64 mn ∧ v = .int .i64 nn ∧ i = .int .i64 r ∧ r ≤ k ∧ mn ≤ r ∧ nn ≤ r ∧ Hid (CntP (kindP gk) ps KI mn r) ∧ Hid (CntP (takesP gk g) ps TI nn r) ∧ Below wp.heap.size wp wr) (fun _ _ i _ => k - (intOf i).toNat)
            case atStart => exact ⟨0, 0, 0, rfl, rfl, rfl, Nat.zero_le _, Nat.le_refl _, Nat.le_refl _, ⟨fun _ => HKI.out.symm, fun h => absurd h (by omega)⟩, ⟨fun _ => HTI.out.symm, fun h => absurd h (by omega)⟩, Below.refl _ _⟩
            case round =>
              obtain ⟨r, mn, nn, rfl, rfl, rfl, hr, hmn, hnn, hCK, hCT, hB⟩ := hrel
              have mnI : (mn : Int) ≤ 2097152 := by omega
              have nnI : (nn : Int) ≤ 2097152 := by omega
              by_cases hlt : r < k
              · have ltI : (r : Int) < (k : Int) := by omega
                obtain ⟨b, off, rfl, hcl⟩ := ((HP3.out.below hB).below (Below.refl _ _).drew).ats.hrd (by omega)
                obtain ⟨e0, e1⟩ := hcl r hlt
                have hBd := hide hB.drew
                have hmem : ps.getD r (0, ByteArray.empty) ∈ ps := getD_mem (by omega)
                have hlen := HP3.out.len hmem
                have hmay := hMP.out r hlt
                have hKy := hide (fun h => hCK.out.yes (by omega : r < ps.length) h)
                have hKn := hide (fun h => hCK.out.no (by omega : r < ps.length) h)
                have hTy := hide (fun h => hCT.out.yes (by omega : r < ps.length) h)
                have hTn := hide (fun h => hCT.out.no (by omega : r < ps.length) h)
                generalize ps.getD r (0, ByteArray.empty) = x at e0 e1 hmem hlen hmay hKy hKn hTy hTn
                obtain ⟨t, s⟩ := x
                simp only [] at e0 e1 hlen hmay
                have hC4 : Cel4 b (off + r * 2) w.heap.size t s gk (tx g) wr.drew := ⟨e0, e1, ((hB.drew).cell (lt_of_cell y4.out)).trans y4.out, ((hB.drew).cell (lt_of_cell y5.out)).trans y5.out⟩
                have hc := hide (fun W => rall_any t s.data.toList gk g hlen hg W)
                have hal : allW t s.data.toList gk g = holL t s.data.toList gk g := by unfold allW; rw [hmay, HM.out]; rfl
                rw [hal] at hc
                have htx : tx s.data.toList = s := rfl
                rw [htx] at hc
                have hTP : Hid (takesP gk g (t, s) = holL t s.data.toList gk g) := rfl
                have hKP : Hid (kindP gk (t, s) = decide (t = gk)) := rfl
                clear hcl hmem hlen hmay hal htx hCK hCT e0 e1 hB
                generalize holL t s.data.toList gk g = qt at hc hTP
                go_wp2
                refine wp_region_held_drew (S := Cel4 b (off + r * 2) w.heap.size t s gk (tx g)) (by kernel_rfl) hC4 (fun hS => ?_)
                clear hC4
                generalize wr.drew = X0 at *
                refine wpAnyH_take (i := 0) (v := ?_) rfl (by kernel_rfl) (by kernel_rfl) (by kernel_rfl) (fun _ _ _ h => h) (Or.inl ⟨by rfl, ?_⟩) (by assumption) ?_
                rotate_left
                · intro wq hSq
                  obtain ⟨r0, r1, r2, r3⟩ := hSq
                  go_simp
                  try with_reducible rfl
                simp only [List.getElem_toArray, List.getElem_cons_zero, Act.put, List.setIfInBounds_toArray, List.set_cons_zero, List.set_cons_succ]
                refine wpAnyH_take (i := 1) (v := ?_) rfl (by kernel_rfl) (by kernel_rfl) (by kernel_rfl) (fun _ _ _ h => h) (Or.inl ⟨by rfl, ?_⟩) (by assumption) ?_
                rotate_left
                · intro wq hSq
                  obtain ⟨r0, r1, r2, r3⟩ := hSq
                  go_simp
                  try with_reducible rfl
                simp only [List.getElem_toArray, List.getElem_cons_succ, List.getElem_cons_zero, Act.put, List.setIfInBounds_toArray, List.set_cons_zero, List.set_cons_succ]
                refine wpAnyH_take (i := 2) (v := ?_) rfl (by kernel_rfl) (by kernel_rfl) (by kernel_rfl) (fun _ _ _ h => h) (Or.inl ⟨by rfl, ?_⟩) (by assumption) ?_
                rotate_left
                · intro wq hSq
                  obtain ⟨r0, r1, r2, r3⟩ := hSq
                  go_simp
                  try with_reducible rfl
                simp only [List.getElem_toArray, List.getElem_cons_succ, List.getElem_cons_zero, Act.put, List.setIfInBounds_toArray, List.set_cons_zero, List.set_cons_succ]
                refine wpAnyH_take (i := 3) (v := ?_) rfl (by kernel_rfl) (by kernel_rfl) (by kernel_rfl) (fun _ _ _ h => h) (Or.inl ⟨by rfl, ?_⟩) (by assumption) ?_
                rotate_left
                · intro wq hSq
                  obtain ⟨r0, r1, r2, r3⟩ := hSq
                  go_simp
                  try with_reducible rfl
                simp only [List.getElem_toArray, List.getElem_cons_succ, List.getElem_cons_zero, Act.put, List.setIfInBounds_toArray, List.set_cons_zero, List.set_cons_succ]
                refine wpAnyH_take (i := 4) (v := ?_) rfl (by kernel_rfl) (by kernel_rfl) (by kernel_rfl) (fun _ _ _ h => h) (Or.inl ⟨by rfl, ?_⟩) (by assumption) ?_
                rotate_left
                · intro wq hSq
                  obtain ⟨r0, r1, r2, r3⟩ := hSq
                  go_simp
                  try with_reducible rfl
                simp only [List.getElem_toArray, List.getElem_cons_succ, List.getElem_cons_zero, Act.put, List.setIfInBounds_toArray, List.set_cons_zero, List.set_cons_succ]
                refine wpAnyH_take (i := 5) (v := ?_) rfl (by kernel_rfl) (by kernel_rfl) (by kernel_rfl) (fun _ _ _ h => h) (Or.inl ⟨by rfl, ?_⟩) (by assumption) ?_
                rotate_left
                · intro wq hSq
                  obtain ⟨r0, r1, r2, r3⟩ := hSq
                  go_simp
                  try with_reducible rfl
                simp only [List.getElem_toArray, List.getElem_cons_succ, List.getElem_cons_zero, Act.put, List.setIfInBounds_toArray, List.set_cons_zero, List.set_cons_succ]
                refine wpAnyH_take (i := 6) (v := ?_) rfl (by kernel_rfl) (by kernel_rfl) (by kernel_rfl) (fun _ _ _ h => h) (Or.inl ⟨by rfl, ?_⟩) (by assumption) ?_
                rotate_left
                · intro wq hSq
                  obtain ⟨r0, r1, r2, r3⟩ := hSq
                  go_simp
                  try with_reducible rfl
                simp only [List.getElem_toArray, List.getElem_cons_succ, List.getElem_cons_zero, Act.put, List.setIfInBounds_toArray, List.set_cons_zero, List.set_cons_succ]
                refine wpAnyH_take (i := 7) (v := ?_) rfl (by kernel_rfl) (by kernel_rfl) (by kernel_rfl) (fun _ _ _ h => h) (Or.inl ⟨by rfl, ?_⟩) (by assumption) ?_
                rotate_left
                · intro wq hSq
                  obtain ⟨r0, r1, r2, r3⟩ := hSq
                  go_simp
                  try with_reducible rfl
                simp only [List.getElem_toArray, List.getElem_cons_succ, List.getElem_cons_zero, Act.put, List.setIfInBounds_toArray, List.set_cons_zero, List.set_cons_succ]
                refine wpAnyH_done (by kernel_rfl) ?_ _
                have hS2 := hide hS
                clear hS
                by_cases hkg : t = gk
                · have qk : (t == gk) = true := by simpa using hkg
                  have hK9 := hide (hKy.out (by rw [hKP.out]; exact decide_eq_true hkg))
                  clear hKy hKn hKP hkg
                  go_wp2
                  refine wp_region_held_drew (S := Cel4 b (off + r * 2) w.heap.size t s gk (tx g)) (by kernel_rfl) (hS2.out.below (Below.refl _ _).drew) (fun hS => ?_)
                  have hBe := hide hBd.out.drew
                  clear hS2 hBd
                  generalize X0.drew = X1 at *
                  refine wpAnyH_take (i := 0) (v := ?_) rfl (by kernel_rfl) (by kernel_rfl) (by kernel_rfl) (fun _ _ _ h => h) (Or.inl ⟨by rfl, ?_⟩) (by assumption) ?_
                  rotate_left
                  · intro wq hSq
                    obtain ⟨r0, r1, r2, r3⟩ := hSq
                    go_simp
                    try with_reducible rfl
                  simp only [List.getElem_toArray, List.getElem_cons_zero, Act.put, List.setIfInBounds_toArray, List.set_cons_zero, List.set_cons_succ]
                  refine wpAnyH_take (i := 1) (v := ?_) rfl (by kernel_rfl) (by kernel_rfl) (by kernel_rfl) (fun _ _ _ h => h) (Or.inl ⟨by rfl, ?_⟩) (by assumption) ?_
                  rotate_left
                  · intro wq hSq
                    obtain ⟨r0, r1, r2, r3⟩ := hSq
                    go_simp
                    try with_reducible rfl
                  simp only [List.getElem_toArray, List.getElem_cons_succ, List.getElem_cons_zero, Act.put, List.setIfInBounds_toArray, List.set_cons_zero, List.set_cons_succ]
                  refine wpAnyH_take (i := 2) (v := ?_) rfl (by kernel_rfl) (by kernel_rfl) (by kernel_rfl) (fun _ _ _ h => h) (Or.inl ⟨by rfl, ?_⟩) (by assumption) ?_
                  rotate_left
                  · intro wq hSq
                    obtain ⟨r0, r1, r2, r3⟩ := hSq
                    go_simp
                    try with_reducible rfl
                  simp only [List.getElem_toArray, List.getElem_cons_succ, List.getElem_cons_zero, Act.put, List.setIfInBounds_toArray, List.set_cons_zero, List.set_cons_succ]
                  refine wpAnyH_take (i := 3) (v := ?_) rfl (by kernel_rfl) (by kernel_rfl) (by kernel_rfl) (fun _ _ _ h => h) (Or.inl ⟨by rfl, ?_⟩) (by assumption) ?_
                  rotate_left
                  · intro wq hSq
                    obtain ⟨r0, r1, r2, r3⟩ := hSq
                    go_simp
                    try with_reducible rfl
                  simp only [List.getElem_toArray, List.getElem_cons_succ, List.getElem_cons_zero, Act.put, List.setIfInBounds_toArray, List.set_cons_zero, List.set_cons_succ]
                  refine wpAnyH_take (i := 4) (v := ?_) rfl (by kernel_rfl) (by kernel_rfl) (by kernel_rfl) (fun _ _ _ h => h) (Or.inl ⟨by rfl, ?_⟩) (by assumption) ?_
                  rotate_left
                  · intro wq hSq
                    obtain ⟨r0, r1, r2, r3⟩ := hSq
                    go_simp
                    try with_reducible rfl
                  simp only [List.getElem_toArray, List.getElem_cons_succ, List.getElem_cons_zero, Act.put, List.setIfInBounds_toArray, List.set_cons_zero, List.set_cons_succ]
                  refine wpAnyH_ready (rs := [5]) (by kernel_rfl) (by simp) ?_
                  refine AllReadyH.cons rfl (fun Kq hKq => ?_) AllReadyH.nil
                  go_simp
                  refine (hc.out _).mono ?_
                  rintro e w4 ⟨rfl, B4⟩
                  refine hKq.out _ _ (hS.below B4) (fun _ => ?_)
                  clear hKq Kq
                  refine wpAnyH_done (by kernel_rfl) ?_ _
                  have hBf := hBe.out.trans (B4.mono hBe.out.size)
                  clear hS hBe B4 hc
                  cases qt with
                  | true =>
                    have hT9 := hide (hTy.out hTP.out)
                    clear hTy hTn hTP
                    go_wp2
                    go_roundw
                    case rel => exact ⟨r + 1, mn + 1, nn + 1, by first | rfl | go_num, by go_num, by go_num, by omega, by omega, by omega, hK9.out, hT9.out, hBf⟩
                    case measure => simp [intOf]; omega
                  | false =>
                    have hT9 := hide (hTn.out hTP.out)
                    clear hTy hTn hTP
                    go_wp2
                    go_roundw
                    case rel => exact ⟨r + 1, mn + 1, nn, by first | rfl | go_num, rfl, by go_num, by omega, by omega, by omega, hK9.out, hT9.out, hBf⟩
                    case measure => simp [intOf]; omega
                · have qk : (t == gk) = false := by simpa using hkg
                  have hK9 := hide (hKn.out (by rw [hKP.out]; exact decide_eq_false hkg))
                  clear hKy hKn hKP hkg
                  go_wp2
                  refine wp_region_held_drew (S := Cel4 b (off + r * 2) w.heap.size t s gk (tx g)) (by kernel_rfl) (hS2.out.below (Below.refl _ _).drew) (fun hS => ?_)
                  have hBe := hide hBd.out.drew
                  clear hS2 hBd
                  generalize X0.drew = X1 at *
                  refine wpAnyH_take (i := 0) (v := ?_) rfl (by kernel_rfl) (by kernel_rfl) (by kernel_rfl) (fun _ _ _ h => h) (Or.inl ⟨by rfl, ?_⟩) (by assumption) ?_
                  rotate_left
                  · intro wq hSq
                    obtain ⟨r0, r1, r2, r3⟩ := hSq
                    go_simp
                    try with_reducible rfl
                  simp only [List.getElem_toArray, List.getElem_cons_zero, Act.put, List.setIfInBounds_toArray, List.set_cons_zero, List.set_cons_succ]
                  refine wpAnyH_take (i := 1) (v := ?_) rfl (by kernel_rfl) (by kernel_rfl) (by kernel_rfl) (fun _ _ _ h => h) (Or.inl ⟨by rfl, ?_⟩) (by assumption) ?_
                  rotate_left
                  · intro wq hSq
                    obtain ⟨r0, r1, r2, r3⟩ := hSq
                    go_simp
                    try with_reducible rfl
                  simp only [List.getElem_toArray, List.getElem_cons_succ, List.getElem_cons_zero, Act.put, List.setIfInBounds_toArray, List.set_cons_zero, List.set_cons_succ]
                  refine wpAnyH_take (i := 2) (v := ?_) rfl (by kernel_rfl) (by kernel_rfl) (by kernel_rfl) (fun _ _ _ h => h) (Or.inl ⟨by rfl, ?_⟩) (by assumption) ?_
                  rotate_left
                  · intro wq hSq
                    obtain ⟨r0, r1, r2, r3⟩ := hSq
                    go_simp
                    try with_reducible rfl
                  simp only [List.getElem_toArray, List.getElem_cons_succ, List.getElem_cons_zero, Act.put, List.setIfInBounds_toArray, List.set_cons_zero, List.set_cons_succ]
                  refine wpAnyH_take (i := 3) (v := ?_) rfl (by kernel_rfl) (by kernel_rfl) (by kernel_rfl) (fun _ _ _ h => h) (Or.inl ⟨by rfl, ?_⟩) (by assumption) ?_
                  rotate_left
                  · intro wq hSq
                    obtain ⟨r0, r1, r2, r3⟩ := hSq
                    go_simp
                    try with_reducible rfl
                  simp only [List.getElem_toArray, List.getElem_cons_succ, List.getElem_cons_zero, Act.put, List.setIfInBounds_toArray, List.set_cons_zero, List.set_cons_succ]
                  refine wpAnyH_take (i := 4) (v := ?_) rfl (by kernel_rfl) (by kernel_rfl) (by kernel_rfl) (fun _ _ _ h => h) (Or.inl ⟨by rfl, ?_⟩) (by assumption) ?_
                  rotate_left
                  · intro wq hSq
                    obtain ⟨r0, r1, r2, r3⟩ := hSq
                    go_simp
                    try with_reducible rfl
                  simp only [List.getElem_toArray, List.getElem_cons_succ, List.getElem_cons_zero, Act.put, List.setIfInBounds_toArray, List.set_cons_zero, List.set_cons_succ]
                  refine wpAnyH_ready (rs := [5]) (by kernel_rfl) (by simp) ?_
                  refine AllReadyH.cons rfl (fun Kq hKq => ?_) AllReadyH.nil
                  go_simp
                  refine (hc.out _).mono ?_
                  rintro e w4 ⟨rfl, B4⟩
                  refine hKq.out _ _ (hS.below B4) (fun _ => ?_)
                  clear hKq Kq
                  refine wpAnyH_done (by kernel_rfl) ?_ _
                  have hBf := hBe.out.trans (B4.mono hBe.out.size)
                  clear hS hBe B4 hc
                  cases qt with
                  | true =>
                    have hT9 := hide (hTy.out hTP.out)
                    clear hTy hTn hTP
                    go_wp2
                    go_roundw
                    case rel => exact ⟨r + 1, mn, nn + 1, by first | rfl | go_num, by go_num, by go_num, by omega, by omega, by omega, hK9.out, hT9.out, hBf⟩
                    case measure => simp [intOf]; omega
                  | false =>
                    have hT9 := hide (hTn.out hTP.out)
                    clear hTy hTn hTP
                    go_wp2
                    go_roundw
                    case rel => exact ⟨r + 1, mn, nn, by first | rfl | go_num, rfl, by go_num, by omega, by omega, by omega, hK9.out, hT9.out, hBf⟩
                    case measure => simp [intOf]; omega
              · obtain rfl : r = k := by omega
                have nI3 : ¬ ((r : Int) < (r : Int)) := by omega
                have hKA : 0 ≤ KI ↔ 0 < mn := by have h := hCK.out; rw [← HL1.out] at h; exact h.all
                have hTA : 0 ≤ TI ↔ 0 < nn := by have h := hCT.out; rw [← HL1.out] at h; exact h.all
                obtain ⟨wz, rfl⟩ : ∃ wz : World, wz = wr := ⟨_, rfl⟩
                have HE4 := hide (HE3.out.below hB)
                have y6 := hide ((hB.cell (lt_of_cell y4.out)).trans y4.out)
                have y7 := hide ((hB.cell (lt_of_cell y5.out)).trans y5.out)
                have HBz := hide (HBs.out.trans (hB.mono HBs.out.size))
                clear hCK hCT hB HP3 HE3 y4 y5 HBs HKI HTI hr hmn hnn
                by_cases hmn : 0 < mn
                · have mI : (0 : Int) < (mn : Int) := by omega
                  by_cases hnn : 0 < nn
                  · have nI4 : ((nn : Int) == 0) = false := by simp; omega
                    have hV2 : Hid (V = if 0 ≤ idxT (meetP gk g) es then (idxT (meetP gk g) es, 142) else (0, 0)) := by unfold Hid; rw [hV1.out, if_neg (by omega)]
                    clear hV1 hKA hTA hmn hnn
                    obtain ⟨J, hJ⟩ : ∃ X, idxT (meetP gk g) es = X := ⟨_, rfl⟩
                    rw [hJ] at hV2
                    have HJ := hide hJ
                    clear hJ
                    go_wp2
                    go_loopw [13] (fun i wr => ∃ p : Nat, i = .int .i64 p ∧ p ≤ q ∧ Hid (J = idxF (meetP gk g) p (es.drop p)) ∧ Below wz.heap.size wz wr) (fun i _ => q - (intOf i).toNat)
                    case atStart => exact ⟨0, rfl, Nat.zero_le _, HJ.out.symm, Below.refl _ _⟩
                    case round =>
                      obtain ⟨p, rfl, hp, hE9, hB⟩ := hrel
                      by_cases hlt : p < q
                      · have ltI : (p : Int) < (q : Int) := by omega
                        obtain ⟨b, off, rfl, hcl⟩ := (HE4.out.below hB).ats.hrd (by omega)
                        obtain ⟨e0, e1⟩ := hcl p hlt
                        have hst := hide (idxF_step (meetP gk g) es p (by omega) J hE9.out)
                        have hmem : es.getD p (0, ByteArray.empty) ∈ es := getD_mem (by omega)
                        have hlen := HE4.out.len hmem
                        have hmay := hME.out p hlt
                        generalize es.getD p (0, ByteArray.empty) = x at e0 e1 hmem hlen hmay hst
                        obtain ⟨t, s⟩ := x
                        simp only [] at e0 e1 hlen hmay
                        have hS2 : Hid (Cel4 b (off + p * 2) w.heap.size t s gk (tx g) wr) := ⟨e0, e1, (hB.cell (lt_of_cell y6.out)).trans y6.out, (hB.cell (lt_of_cell y7.out)).trans y7.out⟩
                        have hc := hide (fun W => rsome_any t s.data.toList gk g hlen hg W)
                        have hal : somW t s.data.toList gk g = meeL t s.data.toList gk g := by unfold somW; rw [hmay, HM.out]; rfl
                        rw [hal] at hc
                        have htx : tx s.data.toList = s := rfl
                        rw [htx] at hc
                        have hTP : Hid (meetP gk g (t, s) = meeL t s.data.toList gk g) := rfl
                        have hBd := hide hB
                        clear hcl hmem hlen hmay hal htx e0 e1 hB hE9
                        generalize meeL t s.data.toList gk g = qt at hc hTP
                        obtain ⟨X0, rfl⟩ : ∃ X0 : World, X0 = wr := ⟨_, rfl⟩
                        go_wp2
                        refine wp_region_held_drew (S := Cel4 b (off + p * 2) w.heap.size t s gk (tx g)) (by kernel_rfl) (hS2.out.below (Below.refl _ _).drew) (fun hS => ?_)
                        have hBe := hide hBd.out.drew
                        clear hS2 hBd
                        generalize X0.drew = X1 at *
                        refine wpAnyH_take (i := 0) (v := ?_) rfl (by kernel_rfl) (by kernel_rfl) (by kernel_rfl) (fun _ _ _ h => h) (Or.inl ⟨by rfl, ?_⟩) (by assumption) ?_
                        rotate_left
                        · intro wq hSq
                          obtain ⟨r0, r1, r2, r3⟩ := hSq
                          go_simp
                          try with_reducible rfl
                        simp only [List.getElem_toArray, List.getElem_cons_zero, Act.put, List.setIfInBounds_toArray, List.set_cons_zero, List.set_cons_succ]
                        refine wpAnyH_take (i := 1) (v := ?_) rfl (by kernel_rfl) (by kernel_rfl) (by kernel_rfl) (fun _ _ _ h => h) (Or.inl ⟨by rfl, ?_⟩) (by assumption) ?_
                        rotate_left
                        · intro wq hSq
                          obtain ⟨r0, r1, r2, r3⟩ := hSq
                          go_simp
                          try with_reducible rfl
                        simp only [List.getElem_toArray, List.getElem_cons_succ, List.getElem_cons_zero, Act.put, List.setIfInBounds_toArray, List.set_cons_zero, List.set_cons_succ]
                        refine wpAnyH_take (i := 2) (v := ?_) rfl (by kernel_rfl) (by kernel_rfl) (by kernel_rfl) (fun _ _ _ h => h) (Or.inl ⟨by rfl, ?_⟩) (by assumption) ?_
                        rotate_left
                        · intro wq hSq
                          obtain ⟨r0, r1, r2, r3⟩ := hSq
                          go_simp
                          try with_reducible rfl
                        simp only [List.getElem_toArray, List.getElem_cons_succ, List.getElem_cons_zero, Act.put, List.setIfInBounds_toArray, List.set_cons_zero, List.set_cons_succ]
                        refine wpAnyH_take (i := 3) (v := ?_) rfl (by kernel_rfl) (by kernel_rfl) (by kernel_rfl) (fun _ _ _ h => h) (Or.inl ⟨by rfl, ?_⟩) (by assumption) ?_
                        rotate_left
                        · intro wq hSq
                          obtain ⟨r0, r1, r2, r3⟩ := hSq
                          go_simp
                          try with_reducible rfl
                        simp only [List.getElem_toArray, List.getElem_cons_succ, List.getElem_cons_zero, Act.put, List.setIfInBounds_toArray, List.set_cons_zero, List.set_cons_succ]
                        refine wpAnyH_take (i := 4) (v := ?_) rfl (by kernel_rfl) (by kernel_rfl) (by kernel_rfl) (fun _ _ _ h => h) (Or.inl ⟨by rfl, ?_⟩) (by assumption) ?_
                        rotate_left
                        · intro wq hSq
                          obtain ⟨r0, r1, r2, r3⟩ := hSq
                          go_simp
                          try with_reducible rfl
                        simp only [List.getElem_toArray, List.getElem_cons_succ, List.getElem_cons_zero, Act.put, List.setIfInBounds_toArray, List.set_cons_zero, List.set_cons_succ]
                        refine wpAnyH_ready (rs := [5]) (by kernel_rfl) (by simp) ?_
                        refine AllReadyH.cons rfl (fun Kq hKq => ?_) AllReadyH.nil
                        go_simp
                        refine (hc.out _).mono ?_
                        rintro e w4 ⟨rfl, B4⟩
                        refine hKq.out _ _ (hS.below B4) (fun _ => ?_)
                        clear hKq Kq
                        refine wpAnyH_done (by kernel_rfl) ?_ _
                        have hBf := hBe.out.trans (B4.mono hBe.out.size)
                        clear hS hBe B4 hc
                        cases qt with
                        | true =>
                          have hJ2 := hst.out.1 hTP.out
                          have hVV : Hid (V = ((p : Int), 142)) := by unfold Hid; rw [hV2.out, hJ2, if_pos (by omega)]
                          clear hst hTP hJ2 hV2
                          go_wp2
                          refine bodyPost_ret (v := .tuple #[.int .i64 p, .int .i64 142]) (by simp [results, Tryz.results8, go_sem]) rfl ⟨by rw [hVV.out], HBz.out.trans (hBf.mono HBz.out.size)⟩
                        | false =>
                          have hJ2 := hide (hst.out.2 hTP.out)
                          clear hst hTP
                          go_wp2
                          go_roundw
                          case rel => exact ⟨p + 1, by go_num, by omega, hJ2.out, hBf⟩
                          case measure => simp [intOf]; omega
                      · obtain rfl : p = q := by omega
                        have nI9 : ¬ ((p : Int) < (p : Int)) := by omega
                        have hJn : J = -1 := by
                          have h := hE9.out
                          rw [List.drop_eq_nil_of_le (by omega)] at h
                          exact h
                        have hVV : Hid (V = (0, 0)) := by unfold Hid; rw [hV2.out, if_neg (by omega)]
                        clear hV2 hJn hE9
                        go_wp2
                        refine bodyPost_ret (v := .tuple #[.int .i64 0, .int .i64 0]) (by simp [results, Tryz.results8, go_sem]) rfl ⟨by rw [hVV.out], HBz.out.trans (hB.mono HBz.out.size)⟩
                  · obtain rfl : nn = 0 := by omega
                    have hVV : Hid (V = (0, 141)) := by unfold Hid; rw [hV1.out, if_pos ⟨by omega, by omega⟩]
                    clear hV1 hKA hTA hmn hnn
                    go_wp2
                    refine bodyPost_ret (v := .tuple #[.int .i64 0, .int .i64 141]) (by simp [results, Tryz.results8, go_sem]) rfl ⟨by rw [hVV.out], HBz.out⟩
                · obtain rfl : mn = 0 := by omega
                  have hV2 : Hid (V = if 0 ≤ idxT (meetP gk g) es then (idxT (meetP gk g) es, 142) else (0, 0)) := by unfold Hid; rw [hV1.out, if_neg (by omega)]
                  clear hV1 hKA hTA hmn
                  obtain ⟨J, hJ⟩ : ∃ X, idxT (meetP gk g) es = X := ⟨_, rfl⟩
                  rw [hJ] at hV2
                  have HJ := hide hJ
                  clear hJ
                  go_wp2
                  go_loopw [13] (fun i wr => ∃ p : Nat, i = .int .i64 p ∧ p ≤ q ∧ Hid (J = idxF (meetP gk g) p (es.drop p)) ∧ Below wz.heap.size wz wr) (fun i _ => q - (intOf i).toNat)
                  case atStart => exact ⟨0, rfl, Nat.zero_le _, HJ.out.symm, Below.refl _ _⟩
                  case round =>
                    obtain ⟨p, rfl, hp, hE9, hB⟩ := hrel
                    by_cases hlt : p < q
                    · have ltI : (p : Int) < (q : Int) := by omega
                      obtain ⟨b, off, rfl, hcl⟩ := (HE4.out.below hB).ats.hrd (by omega)
                      obtain ⟨e0, e1⟩ := hcl p hlt
                      have hst := hide (idxF_step (meetP gk g) es p (by omega) J hE9.out)
                      have hmem : es.getD p (0, ByteArray.empty) ∈ es := getD_mem (by omega)
                      have hlen := HE4.out.len hmem
                      have hmay := hME.out p hlt
                      generalize es.getD p (0, ByteArray.empty) = x at e0 e1 hmem hlen hmay hst
                      obtain ⟨t, s⟩ := x
                      simp only [] at e0 e1 hlen hmay
                      have hS2 : Hid (Cel4 b (off + p * 2) w.heap.size t s gk (tx g) wr) := ⟨e0, e1, (hB.cell (lt_of_cell y6.out)).trans y6.out, (hB.cell (lt_of_cell y7.out)).trans y7.out⟩
                      have hc := hide (fun W => rsome_any t s.data.toList gk g hlen hg W)
                      have hal : somW t s.data.toList gk g = meeL t s.data.toList gk g := by unfold somW; rw [hmay, HM.out]; rfl
                      rw [hal] at hc
                      have htx : tx s.data.toList = s := rfl
                      rw [htx] at hc
                      have hTP : Hid (meetP gk g (t, s) = meeL t s.data.toList gk g) := rfl
                      have hBd := hide hB
                      clear hcl hmem hlen hmay hal htx e0 e1 hB hE9
                      generalize meeL t s.data.toList gk g = qt at hc hTP
                      obtain ⟨X0, rfl⟩ : ∃ X0 : World, X0 = wr := ⟨_, rfl⟩
                      go_wp2
                      refine wp_region_held_drew (S := Cel4 b (off + p * 2) w.heap.size t s gk (tx g)) (by kernel_rfl) (hS2.out.below (Below.refl _ _).drew) (fun hS => ?_)
                      have hBe := hide hBd.out.drew
                      clear hS2 hBd
                      generalize X0.drew = X1 at *
                      refine wpAnyH_take (i := 0) (v := ?_) rfl (by kernel_rfl) (by kernel_rfl) (by kernel_rfl) (fun _ _ _ h => h) (Or.inl ⟨by rfl, ?_⟩) (by assumption) ?_
                      rotate_left
                      · intro wq hSq
                        obtain ⟨r0, r1, r2, r3⟩ := hSq
                        go_simp
                        try with_reducible rfl
                      simp only [List.getElem_toArray, List.getElem_cons_zero, Act.put, List.setIfInBounds_toArray, List.set_cons_zero, List.set_cons_succ]
                      refine wpAnyH_take (i := 1) (v := ?_) rfl (by kernel_rfl) (by kernel_rfl) (by kernel_rfl) (fun _ _ _ h => h) (Or.inl ⟨by rfl, ?_⟩) (by assumption) ?_
                      rotate_left
                      · intro wq hSq
                        obtain ⟨r0, r1, r2, r3⟩ := hSq
                        go_simp
                        try with_reducible rfl
                      simp only [List.getElem_toArray, List.getElem_cons_succ, List.getElem_cons_zero, Act.put, List.setIfInBounds_toArray, List.set_cons_zero, List.set_cons_succ]
                      refine wpAnyH_take (i := 2) (v := ?_) rfl (by kernel_rfl) (by kernel_rfl) (by kernel_rfl) (fun _ _ _ h => h) (Or.inl ⟨by rfl, ?_⟩) (by assumption) ?_
                      rotate_left
                      · intro wq hSq
                        obtain ⟨r0, r1, r2, r3⟩ := hSq
                        go_simp
                        try with_reducible rfl
                      simp only [List.getElem_toArray, List.getElem_cons_succ, List.getElem_cons_zero, Act.put, List.setIfInBounds_toArray, List.set_cons_zero, List.set_cons_succ]
                      refine wpAnyH_take (i := 3) (v := ?_) rfl (by kernel_rfl) (by kernel_rfl) (by kernel_rfl) (fun _ _ _ h => h) (Or.inl ⟨by rfl, ?_⟩) (by assumption) ?_
                      rotate_left
                      · intro wq hSq
                        obtain ⟨r0, r1, r2, r3⟩ := hSq
                        go_simp
                        try with_reducible rfl
                      simp only [List.getElem_toArray, List.getElem_cons_succ, List.getElem_cons_zero, Act.put, List.setIfInBounds_toArray, List.set_cons_zero, List.set_cons_succ]
                      refine wpAnyH_take (i := 4) (v := ?_) rfl (by kernel_rfl) (by kernel_rfl) (by kernel_rfl) (fun _ _ _ h => h) (Or.inl ⟨by rfl, ?_⟩) (by assumption) ?_
                      rotate_left
                      · intro wq hSq
                        obtain ⟨r0, r1, r2, r3⟩ := hSq
                        go_simp
                        try with_reducible rfl
                      simp only [List.getElem_toArray, List.getElem_cons_succ, List.getElem_cons_zero, Act.put, List.setIfInBounds_toArray, List.set_cons_zero, List.set_cons_succ]
                      refine wpAnyH_ready (rs := [5]) (by kernel_rfl) (by simp) ?_
                      refine AllReadyH.cons rfl (fun Kq hKq => ?_) AllReadyH.nil
                      go_simp
                      refine (hc.out _).mono ?_
                      rintro e w4 ⟨rfl, B4⟩
                      refine hKq.out _ _ (hS.below B4) (fun _ => ?_)
                      clear hKq Kq
                      refine wpAnyH_done (by kernel_rfl) ?_ _
                      have hBf := hBe.out.trans (B4.mono hBe.out.size)
                      clear hS hBe B4 hc
                      cases qt with
                      | true =>
                        have hJ2 := hst.out.1 hTP.out
                        have hVV : Hid (V = ((p : Int), 142)) := by unfold Hid; rw [hV2.out, hJ2, if_pos (by omega)]
                        clear hst hTP hJ2 hV2
                        go_wp2
                        refine bodyPost_ret (v := .tuple #[.int .i64 p, .int .i64 142]) (by simp [results, Tryz.results8, go_sem]) rfl ⟨by rw [hVV.out], HBz.out.trans (hBf.mono HBz.out.size)⟩
                      | false =>
                        have hJ2 := hide (hst.out.2 hTP.out)
                        clear hst hTP
                        go_wp2
                        go_roundw
                        case rel => exact ⟨p + 1, by go_num, by omega, hJ2.out, hBf⟩
                        case measure => simp [intOf]; omega
                    · obtain rfl : p = q := by omega
                      have nI9 : ¬ ((p : Int) < (p : Int)) := by omega
                      have hJn : J = -1 := by
                        have h := hE9.out
                        rw [List.drop_eq_nil_of_le (by omega)] at h
                        exact h
                      have hVV : Hid (V = (0, 0)) := by unfold Hid; rw [hV2.out, if_neg (by omega)]
                      clear hV2 hJn hE9
                      go_wp2
                      refine bodyPost_ret (v := .tuple #[.int .i64 0, .int .i64 0]) (by simp [results, Tryz.results8, go_sem]) rfl ⟨by rw [hVV.out], HBz.out.trans (hB.mono HBz.out.size)⟩

end Go.Proofs.YtklchpdpooikdaaGreatDoor
