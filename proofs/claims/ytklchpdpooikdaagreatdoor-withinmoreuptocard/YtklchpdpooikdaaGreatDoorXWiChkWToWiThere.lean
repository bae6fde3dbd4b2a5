/-
  within.Check: its walk.
  WithinMore: the maths of Check; append of one subtree to a copy of a row.
  The statements' own call there answers true.
-/
import Derived.Test.YtklchpdpooikdaaGreatDoorXHoNmToWiChk
import Derived.Test.YtklchpdpooikdaaGreatDoorXHoR3ToHoSm
import Derived.Test.YtklchpdpooikdaaGreatDoorXWiMToWiRule
namespace Go.Proofs.YtklchpdpooikdaaGreatDoor
open Go.RowKit Go.IntWalk Go.Shelf

/-- A row that is handed in: its cells, sizes, and that nothing lies at no address. -/
structure RowIn (w : World) (ao : Option Addr) (n c : Nat) (xs : List (Int × ByteArray)) : Prop where
  ats : Ats w ao n c xs
  nil : ao = none → n = 0 ∧ c = 0
  hn : n ≤ 2097152
  hz : ∀ x ∈ xs, x.2.size ≤ 1048576
theorem RowIn.below {w w' : World} {ao : Option Addr} {n c : Nat} {xs : List (Int × ByteArray)} (h : RowIn w ao n c xs) (hb : Below w.heap.size w w') : RowIn w' ao n c xs := ⟨h.ats.below hb, h.nil, h.hn, h.hz⟩
theorem RowIn.len {w : World} {ao : Option Addr} {n c : Nat} {xs : List (Int × ByteArray)} (h : RowIn w ao n c xs) {x : Int × ByteArray} (hx : x ∈ xs) : x.2.data.toList.length ≤ 1048576 := by rw [sizeH_len]; exact h.hz x hx

set_option maxRecDepth 100000 in
set_option maxHeartbeats 4000000 in
theorem check_any (a1 : Option Addr) (n1 c1 : Nat) (ps : List (Int × ByteArray)) (a2 : Option Addr) (n2 c2 : Nat) (es : List (Int × ByteArray)) (gk : Int) (hgk : (Lit.int .i64 gk).wf = true) (g : List UInt8) (hg : g.length ≤ 1048576) (m : Int) (w : World) (hm : ML w m) (hP : RowIn w a1 n1 c1 ps) (hE : RowIn w a2 n2 c2 es) :
    Calls Tryz.prog 7 #[.slice a1 n1 c1, .slice a2 n2 c2, .agg #[.int .i64 gk, .string (tx g)]] w fun e w' => e = .returned (.tuple #[.int .i64 (chkV ps es gk g).1, .int .i64 (chkV ps es gk g).2]) ∧ Below w.heap.size w w' := by
  have BX := nbelowW w (.cells #[.int .i64 gk, .string (tx g)] 32)
  have hI : InG w m w.heap.size gk g (w.alloc (.cells #[.int .i64 gk, .string (tx g)] 32)) := ⟨(Kp.refl hm).next BX, by simp, by simp⟩
  have d1 := hide (mayG_kp _ gk hgk g hg m _ (Kp.refl hI.1.2))
  have HI := hide hI
  have HP := hide hP
  have HE := hide hE
  have x0 := hI.2.1
  have x1 := hI.2.2
  clear hI hm hP hE
  cases hM : mayG gk g with
  | false =>
    have HV : Hid (chkV ps es gk g = (0, 130)) := by unfold Hid chkV; rw [if_pos hM]
    rw [hM] at d1
    clear hM
    go_enter Tryz.func7, Tryz.ntmps7
    go_wp2_with fail
    refine d1.out.mono ?_
    rintro e w1 ⟨rfl, B1, _⟩
    have HI1 := hide (HI.out.next B1)
    clear d1 HI B1
    go_wp2
    -- 0, 130: what is answered; HI1.out: the memory's fact
    refine bodyPost_ret (v := .tuple #[.int .i64 (0), .int .i64 (130)]) (by simp [results, Tryz.results7, go_sem]) rfl ⟨by rw [HV.out], (HI1.out).1.1⟩
  | true =>
    have hV0 : Hid (chkV ps es gk g = if 0 ≤ idxT notP (ps ++ es) then (idxT notP (ps ++ es), 140) else
      if 0 ≤ idxT (kindP gk) ps ∧ ¬ 0 ≤ idxT (takesP gk g) ps then (0, 141) else if 0 ≤ idxT (meetP gk g) es then (idxT (meetP gk g) es, 142) else (0, 0)) := by unfold Hid chkV; rw [if_neg (by rw [hM]; decide)]
    rw [hM] at d1
    clear hM
    go_enter Tryz.func7, Tryz.ntmps7
    go_wp2_with fail
    refine d1.out.mono ?_
    rintro e w1 ⟨rfl, B1, _⟩
    have HI1 := hide (HI.out.next B1)
    clear d1 HI B1 x0 x1
    have BY := nbelow w1 (.cells #[.slice a1 n1 c1, .slice a2 n2 c2] 22)
    have k0 : (w1.alloc (.cells #[.slice a1 n1 c1, .slice a2 n2 c2] 22)).cell? ⟨w1.heap.size, 0, none⟩ = some (.slice a1 n1 c1) := by simp
    have k1 : (w1.alloc (.cells #[.slice a1 n1 c1, .slice a2 n2 c2] 22)).cell? ⟨w1.heap.size, 1, none⟩ = some (.slice a2 n2 c2) := by simp
    have HI2 := hide (HI1.out.next BY)
    have d2 := hide (concat_any w1.heap.size a1 n1 c1 ps a2 n2 c2 es _ k0 k1 (HP.out.below HI2.out.1.1).ats (HE.out.below HI2.out.1.1).ats HP.out.nil HE.out.nil HP.out.hn HE.out.hn)
    clear k0 k1 BY HI1
    go_wp2_with fail
    refine d2.out.mono ?_
    rintro e w3 ⟨az, cz, rfl, oz, B3⟩
    have HI3 := hide (HI2.out.next B3)
    have hzz : ∀ x ∈ ps ++ es, x.2.size ≤ 1048576 := fun x hx => by
      rcases List.mem_append.1 hx with h | h
      · exact HP.out.hz x h
      · exact HE.out.hz x h
    have hZ := oz.ats hzz
    have d3 := hide (idx_not notP (InG w3 m w.heap.size gk g) az (n1 + n2) cz (ps ++ es) w3 HI3.out.here (fun W hW => hZ.below hW.1.1)
      (fun x hx W hW => by
        have hl : x.2.data.toList.length ≤ 1048576 := by rw [sizeH_len]; exact hzz x hx
        exact notC_any w3 m w.heap.size gk g x.1 x.2.data.toList hl W hW))
    clear d2 HI2 oz B3 hzz hZ
    go_wp2_with fail
    refine d3.out.mono ?_
    rintro e w4 ⟨rfl, h4⟩
    have HI4 := hide (HI3.out.to h4)
    clear d3 HI3 h4
    by_cases hN : 0 ≤ idxT notP (ps ++ es)
    · have HV : Hid (chkV ps es gk g = (idxT notP (ps ++ es), 140)) := by unfold Hid; rw [hV0.out, if_pos hN]
      generalize idxT notP (ps ++ es) = X at *
      clear hV0
      go_wp2
      -- X, 140: what is answered; HI4.out: the memory's fact
      refine bodyPost_ret (v := .tuple #[.int .i64 (X), .int .i64 (140)]) (by simp [results, Tryz.results7, go_sem]) rfl ⟨by rw [HV.out], (HI4.out).1.1⟩
    · have hall : ∀ x ∈ ps ++ es, mayW x.1 x.2.data.toList = true := fun x hx => by
        have h := idxF_neg notP (ps ++ es) 0 hN x hx
        unfold notP at h
        simpa using h
      have hMP : ∀ x ∈ ps, mayW x.1 x.2.data.toList = true := fun x hx => hall x (List.mem_append.2 (.inl hx))
      have hME : ∀ x ∈ es, mayW x.1 x.2.data.toList = true := fun x hx => hall x (List.mem_append.2 (.inr hx))
      have hV1 : Hid (chkV ps es gk g = if 0 ≤ idxT (kindP gk) ps ∧ ¬ 0 ≤ idxT (takesP gk g) ps then (0, 141) else if 0 ≤ idxT (meetP gk g) es then (idxT (meetP gk g) es, 142) else (0, 0)) := by unfold Hid; rw [hV0.out, if_neg hN]; try simp only [Int.not_le]
      have hN1 : idxT notP (ps ++ es) < 0 := by omega
      have cK := hide (fun W (h : InG w m w.heap.size gk g W) => ctn_kind w.heap.size (kindP gk) (InG W m w.heap.size gk g) a1 n1 c1 ps W h.here (fun V hV => ((HP.out.below h.1.1).below hV.1.1).ats) (fun x hx V hV => kindC_any W m w.heap.size gk g x.1 x.2.data.toList V hV))
      have cT := hide (fun W (h : InG w m w.heap.size gk g W) => ctn_takes w.heap.size (takesP gk g) (InG W m w.heap.size gk g) a1 n1 c1 ps W h.here (fun V hV => ((HP.out.below h.1.1).below hV.1.1).ats) (fun x hx V hV => takesC_any W m w.heap.size gk g hg x.1 x.2.data.toList (HP.out.len hx) (hMP x hx) V hV))
      have cM := hide (fun W (h : InG w m w.heap.size gk g W) => idx_meet w.heap.size (meetP gk g) (InG W m w.heap.size gk g) a2 n2 c2 es W h.here (fun V hV => ((HE.out.below h.1.1).below hV.1.1).ats) (fun x hx V hV => meetC_any W m w.heap.size gk g hg x.1 x.2.data.toList (HE.out.len hx) (hME x hx) V hV))
      generalize idxT notP (ps ++ es) = X at *
      clear hV0 hN hall hMP hME
      generalize idxT (meetP gk g) es = J at *
      by_cases hK : 0 ≤ idxT (kindP gk) ps
      · rw [decide_eq_true hK] at cK
        by_cases hT : 0 ≤ idxT (takesP gk g) ps
        · rw [decide_eq_true hT] at cT
          have hV2 : Hid (chkV ps es gk g = if 0 ≤ J then (J, 142) else (0, 0)) := by unfold Hid; rw [hV1.out, if_neg (by omega)]
          clear hV1 hK hT
          go_wp2_with fail
          refine (cK.out _ HI4.out).mono ?_
          rintro e w5 ⟨rfl, h5⟩
          have HI5 := hide (HI4.out.to h5)
          clear cK h5 HI4
          go_wp2_with fail
          refine (cT.out _ HI5.out).mono ?_
          rintro e w6 ⟨rfl, h6⟩
          have HI6 := hide (HI5.out.to h6)
          clear cT h6 HI5
          go_wp2_with fail
          refine (cM.out _ HI6.out).mono ?_
          rintro e w7 ⟨rfl, h7⟩
          have HI7 := hide (HI6.out.to h7)
          clear cM h7 HI6
          by_cases hJ : 0 ≤ J
          · have HV : Hid (chkV ps es gk g = (J, 142)) := by unfold Hid; rw [hV2.out, if_pos hJ]
            go_wp2
            -- J, 142: what is answered; HI7.out: the memory's fact
            refine bodyPost_ret (v := .tuple #[.int .i64 (J), .int .i64 (142)]) (by simp [results, Tryz.results7, go_sem]) rfl ⟨by rw [HV.out], (HI7.out).1.1⟩
          · have HV : Hid (chkV ps es gk g = (0, 0)) := by unfold Hid; rw [hV2.out, if_neg hJ]
            have hJ1 : J < 0 := by omega
            go_wp2
            -- 0, 0: what is answered; HI7.out: the memory's fact
            refine bodyPost_ret (v := .tuple #[.int .i64 (0), .int .i64 (0)]) (by simp [results, Tryz.results7, go_sem]) rfl ⟨by rw [HV.out], (HI7.out).1.1⟩
        · rw [decide_eq_false hT] at cT
          have HV : Hid (chkV ps es gk g = (0, 141)) := by unfold Hid; rw [hV1.out, if_pos ⟨hK, hT⟩]
          clear hV1 hK hT cM
          go_wp2_with fail
          refine (cK.out _ HI4.out).mono ?_
          rintro e w5 ⟨rfl, h5⟩
          have HI5 := hide (HI4.out.to h5)
          clear cK h5 HI4
          go_wp2_with fail
          refine (cT.out _ HI5.out).mono ?_
          rintro e w6 ⟨rfl, h6⟩
          have HI6 := hide (HI5.out.to h6)
          clear cT h6 HI5
          go_wp2
          -- 0, 141: what is answered; HI6.out: the memory's fact
          refine bodyPost_ret (v := .tuple #[.int .i64 (0), .int .i64 (141)]) (by simp [results, Tryz.results7, go_sem]) rfl ⟨by rw [HV.out], (HI6.out).1.1⟩
      · rw [decide_eq_false hK] at cK
        have hV2 : Hid (chkV ps es gk g = if 0 ≤ J then (J, 142) else (0, 0)) := by unfold Hid; rw [hV1.out, if_neg (by omega)]
        clear hV1 hK cT
        go_wp2_with fail
        refine (cK.out _ HI4.out).mono ?_
        rintro e w6 ⟨rfl, h5⟩
        have HI6 := hide (HI4.out.to h5)
        clear cK h5 HI4
        go_wp2_with fail
        refine (cM.out _ HI6.out).mono ?_
        rintro e w7 ⟨rfl, h7⟩
        have HI7 := hide (HI6.out.to h7)
        clear cM h7 HI6
        by_cases hJ : 0 ≤ J
        · have HV : Hid (chkV ps es gk g = (J, 142)) := by unfold Hid; rw [hV2.out, if_pos hJ]
          go_wp2
          -- J, 142: what is answered; HI7.out: the memory's fact
          refine bodyPost_ret (v := .tuple #[.int .i64 (J), .int .i64 (142)]) (by simp [results, Tryz.results7, go_sem]) rfl ⟨by rw [HV.out], (HI7.out).1.1⟩
        · have HV : Hid (chkV ps es gk g = (0, 0)) := by unfold Hid; rw [hV2.out, if_neg hJ]
          have hJ1 : J < 0 := by omega
          go_wp2
          -- 0, 0: what is answered; HI7.out: the memory's fact
          refine bodyPost_ret (v := .tuple #[.int .i64 (0), .int .i64 (0)]) (by simp [results, Tryz.results7, go_sem]) rfl ⟨by rw [HV.out], (HI7.out).1.1⟩

end Go.Proofs.YtklchpdpooikdaaGreatDoor

namespace Go.Proofs.YtklchpdpooikdaaGreatDoor
open Go.RowKit Go.IntWalk Go.Shelf

theorem idxF_ex (p : Int × ByteArray → Bool) : ∀ (xs : List (Int × ByteArray)) (k : Nat), 0 ≤ idxF p k xs ↔ ∃ x ∈ xs, p x = true
  | [], k => by constructor
                · intro h; have e : idxF p k [] = -1 := rfl; omega
                · rintro ⟨x, hx, _⟩; cases hx
  | y :: r, k => by
    rw [idxF]
    by_cases hp : p y = true
    · rw [if_pos hp]
      exact ⟨fun _ => ⟨y, by simp, hp⟩, fun _ => by omega⟩
    · rw [if_neg hp, idxF_ex p r (k + 1)]
      constructor
      · rintro ⟨x, hx, h⟩; exact ⟨x, by simp [hx], h⟩
      · rintro ⟨x, hx, h⟩
        rcases List.mem_cons.1 hx with rfl | hx
        · exact absurd h hp
        · exact ⟨x, hx, h⟩
theorem idxT_ex (p : Int × ByteArray → Bool) (xs : List (Int × ByteArray)) : 0 ≤ idxT p xs ↔ ∃ x ∈ xs, p x = true := idxF_ex p xs 0
/-- When Check finds nothing wrong. -/
theorem chk_ok (ps es : List (Int × ByteArray)) (gk : Int) (g : List UInt8) : (chkV ps es gk g).2 = 0 ↔
    mayG gk g = true ∧ (∀ x ∈ ps ++ es, mayW x.1 x.2.data.toList = true) ∧ ((∃ x ∈ ps, x.1 = gk) → ∃ x ∈ ps, takesP gk g x = true) ∧ ∀ x ∈ es, meetP gk g x = false := by
  unfold chkV
  by_cases h1 : mayG gk g = false
  · rw [if_pos h1]
    constructor
    · intro h; cases h
    · rintro ⟨h, _⟩; rw [h1] at h; cases h
  · rw [if_neg h1]
    have h1' : mayG gk g = true := by simpa using h1
    by_cases h2 : 0 ≤ idxT notP (ps ++ es)
    · rw [if_pos h2]
      constructor
      · intro h; cases h
      · rintro ⟨_, h, _⟩
        obtain ⟨x, hx, hp⟩ := (idxT_ex notP _).1 h2
        unfold notP at hp
        rw [h x hx] at hp
        cases hp
    · rw [if_neg h2]
      have h2' : ∀ x ∈ ps ++ es, mayW x.1 x.2.data.toList = true := fun x hx => by
        have h := idxF_neg notP (ps ++ es) 0 h2 x hx
        unfold notP at h
        simpa using h
      by_cases h3 : 0 ≤ idxT (kindP gk) ps ∧ ¬ 0 ≤ idxT (takesP gk g) ps
      · rw [if_pos h3]
        constructor
        · intro h; cases h
        · rintro ⟨_, _, h, _⟩
          obtain ⟨x, hx, hp⟩ := (idxT_ex _ _).1 h3.1
          exact absurd ((idxT_ex _ _).2 (h ⟨x, hx, by unfold kindP at hp; exact of_decide_eq_true hp⟩)) h3.2
      · rw [if_neg h3]
        have h3' : (∃ x ∈ ps, x.1 = gk) → ∃ x ∈ ps, takesP gk g x = true := by
          rintro ⟨x, hx, he⟩
          by_cases h : 0 ≤ idxT (takesP gk g) ps
          · exact (idxT_ex _ _).1 h
          · exact absurd ⟨(idxT_ex (kindP gk) ps).2 ⟨x, hx, by unfold kindP; exact decide_eq_true he⟩, h⟩ h3
        by_cases h4 : 0 ≤ idxT (meetP gk g) es
        · rw [if_pos h4]
          constructor
          · intro h; cases h
          · rintro ⟨_, _, _, h⟩
            obtain ⟨x, hx, hp⟩ := (idxT_ex _ _).1 h4
            rw [h x hx] at hp
            cases hp
        · rw [if_neg h4]
          exact ⟨fun _ => ⟨h1', h2', h3', fun x hx => idxF_neg (meetP gk g) es 0 h4 x hx⟩, fun _ => rfl⟩

theorem more_not {ps es : List (Int × ByteArray)} {gk : Int} {g : List UInt8} {k : Int} {s : ByteArray} (h : mayW k s.data.toList = false) : (chkV (ps ++ [(k, s)]) es gk g).2 ≠ 0 := fun e => by
  have h2 := ((chk_ok _ _ _ _).1 e).2.1 (k, s) (by simp)
  simp only [] at h2
  rw [h] at h2
  cases h2
theorem more_out {ps es : List (Int × ByteArray)} {gk : Int} {g : List UInt8} {k : Int} {s : ByteArray} (h : (chkV ps (es ++ [(k, s)]) gk g).2 = 0) : (chkV ps es gk g).2 = 0 ∧ somW k s.data.toList gk g = false := by
  obtain ⟨h1, h2, h3, h4⟩ := (chk_ok _ _ _ _).1 h
  refine ⟨(chk_ok _ _ _ _).2 ⟨h1, fun x hx => h2 x (by rcases List.mem_append.1 hx with h | h <;> simp [h]), h3, fun x hx => h4 x (by simp [hx])⟩, ?_⟩
  have h5 := h4 (k, s) (by simp)
  unfold meetP at h5
  simp only [] at h5
  unfold somW
  rw [h5]
  simp
theorem more_in {ps es : List (Int × ByteArray)} {gk : Int} {g : List UInt8} {k : Int} {s : ByteArray} (hM : mayW k s.data.toList = true) (h : (chkV ps es gk g).2 = 0) (ha : ∃ x ∈ ps, x.1 = k) : (chkV (ps ++ [(k, s)]) es gk g).2 = 0 := by
  obtain ⟨h1, h2, h3, h4⟩ := (chk_ok _ _ _ _).1 h
  refine (chk_ok _ _ _ _).2 ⟨h1, fun x hx => ?_, fun hx => ?_, h4⟩
  · rcases List.mem_append.1 hx with h | h
    · rcases List.mem_append.1 h with h | h
      · exact h2 x (by simp [h])
      · simp at h; subst h; exact hM
    · exact h2 x (by simp [h])
  · obtain ⟨x, hx, he⟩ := hx
    have : ∃ x ∈ ps, x.1 = gk := by
      rcases List.mem_append.1 hx with h | h
      · exact ⟨x, h, he⟩
      · simp at h
        subst h
        obtain ⟨y, hy, hyk⟩ := ha
        exact ⟨y, hy, hyk.trans he⟩
    obtain ⟨z, hz, ht⟩ := h3 this
    exact ⟨z, by simp [hz], ht⟩
theorem more_one {gk : Int} {g : List UInt8} {k : Int} {s : ByteArray} (hM : mayW k s.data.toList = true) : (chkV [(k, s)] [] gk g).2 = 0 ↔ (mayG gk g && (decide (k ≠ gk) || allW k s.data.toList gk g)) = true := by
  rw [chk_ok]
  unfold takesP allW
  rw [hM]
  cases hG : mayG gk g with
  | false => simp
  | true =>
    by_cases hk : k = gk
    · subst hk
      simp [hM]
    · simp [hM, hk]

theorem Ats.grownT {W W' : World} {b o n c : Nat} {xs : List (Int × ByteArray)} {r : Option Nat} (h : Ats W (some ⟨b, o, none⟩) n c xs) (hg : W.grownBy W' r) (hne : r ≠ some b) : Ats W' (some ⟨b, o, none⟩) n c xs := by
  refine ⟨h.hl, h.hcap, h.hmax, h.hsz, fun hn => ?_⟩
  obtain ⟨b', off, he, hc⟩ := h.hrd hn
  cases he
  refine ⟨b, o, rfl, fun i hi => ?_⟩
  obtain ⟨h1, h2⟩ := hc i hi
  have hb := hg.block b (lt_of_cell h1) (fun e => hne e.symm)
  exact ⟨(World.cell?_of_block hb).trans h1, (World.cell?_of_block hb).trans h2⟩
theorem OwnT.rowInM {w : World} {base : Nat} {a : Option Addr} {n c : Nat} {xs : List (Int × ByteArray)} (h : OwnT w base (.slice a n c) xs) (hz : ∀ x ∈ xs, x.2.size ≤ 1048576) (hn : n ≤ 2097152) : RowIn w a n c xs := ⟨h.ats hz, fun e => by subst e; exact h.nils, hn, hz⟩

end Go.Proofs.YtklchpdpooikdaaGreatDoor

namespace Go.Proofs.YtklchpdpooikdaaGreatDoor
open Go.RowKit Go.Shelf Go.IntWalk

set_option maxRecDepth 100000 in
set_option maxHeartbeats 1000000 in
theorem there_kp (w0 : World) (m : Int) (w : World) (hm : Kp w0 m w) :
    Calls Tryz.prog 11 #[] w fun e w' => e = .returned (.bool true) ∧ Kp w0 m w' := by
  have e1 : belB [120, 46, 97, 46, 98] [97, 46, 98] = true := by decide
  have e2 : belB [120, 97, 46, 98] [97, 46, 98] = false := by decide
  have d1 : Hid (∀ W, Kp w0 m W → Calls Tryz.prog 28 #[.string ⟨#[120, 46, 97, 46, 98]⟩, .string ⟨#[97, 46, 98]⟩] W fun e W' => e = .returned (.bool true) ∧ Kp w0 m W') := fun W h => by have := below_kp w0 [120, 46, 97, 46, 98] [97, 46, 98] (by decide) (by decide) m W h; rw [e1] at this; exact this
  have d2 : Hid (∀ W, Kp w0 m W → Calls Tryz.prog 28 #[.string ⟨#[120, 97, 46, 98]⟩, .string ⟨#[97, 46, 98]⟩] W fun e W' => e = .returned (.bool false) ∧ Kp w0 m W') := fun W h => by have := below_kp w0 [120, 97, 46, 98] [97, 46, 98] (by decide) (by decide) m W h; rw [e2] at this; exact this
  have HM := hide hm
  clear e1 e2 hm
  go_enter Tryz.func11, Tryz.ntmps11
  go_wp2_with (first
    | (go_at_call_of 28 (Value.string ⟨#[120, 46, 97, 46, 98]⟩); refine (d1.out _ HM.out).mono ?_; rintro e w1 ⟨rfl, K1⟩; replace K1 := hide K1)
    | (go_at_call_of 28 (Value.string ⟨#[120, 97, 46, 98]⟩); refine (d2.out _ K1.out).mono ?_; rintro e w2 ⟨rfl, K2⟩))
  go_ret
  exact ⟨rfl, K2⟩

end Go.Proofs.YtklchpdpooikdaaGreatDoor
