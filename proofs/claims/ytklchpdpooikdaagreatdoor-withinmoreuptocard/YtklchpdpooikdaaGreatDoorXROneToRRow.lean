/-
  The reference's One answers as the plain function of the bytes says; 'same' says true of elements of one tag and one content.
  The document's Row: all elements that stand one behind the other, their places, where they end, and why.
-/
import Derived.Test.YtklchpdpooikdaaGreatDoorXOneToRTag
import Derived.Test.YtklchpdpooikdaaGreatDoorXRTake
import Derived.Test.YtklchpdpooikdaaGreatDoorXItsToNextS
import Derived.Maps.AppendAt
import Derived.Test.YtklchpdpooikdaaGreatDoorXElemToEach
namespace Go.Proofs.YtklchpdpooikdaaGreatDoor
open Go.RowKit Go.IntWalk

theorem contS_byte (xs : List Int) (hb : ∀ x ∈ xs, 0 ≤ x ∧ x < 256) : ∀ x ∈ contS xs, 0 ≤ x ∧ x < 256 := fun x hx => hb x (List.mem_of_mem_take (List.mem_of_mem_drop hx))

theorem oneS_byte (xs : List Int) (hb : ∀ x ∈ xs, 0 ≤ x ∧ x < 256) : ∀ x ∈ (oneS xs).2.1, 0 ≤ x ∧ x < 256 := by
  intro x hx
  unfold oneS at hx
  split at hx
  · simp at hx
  · split at hx
    · simp at hx
    · exact contS_byte xs hb x hx

set_option maxRecDepth 100000 in
set_option maxHeartbeats 2000000 in
theorem refOne_any (ao : Option Addr) (n cap : Nat) (xs : List Int) (w : World) (hs : Src w ao n cap xs) (hN : (n : Int) ≤ 140737488355328) :
    Calls Tryz.prog 57 #[.slice ao n cap] w fun e w' => ∃ ao' m c',
      e = .returned (.tuple #[.agg #[.int .i64 (oneS xs).1, .slice ao' m c'], .int .i64 (oneS xs).2.2]) ∧ OwnB w' w.heap.size (.slice ao' m c') (oneS xs).2.1 ∧ Below w.heap.size w w' := by
  have hl := hs.hlen
  rcases findS_cases xs hs.hbyt with ⟨err, h1, h2, h3, he⟩ | ⟨l, h, he, h1, h2, h3, h4, h5⟩
  · have ho : oneS xs = (0, [], err) := by unfold oneS; rw [he, if_pos h1]
    have HC := hide (show contS xs = [] by unfold contS; rw [he]; simp)
    have HE := hide he
    have HO := hide ho
    have h1' : (err == 0) = false := by simpa using h1
    clear he ho h1 hl
    go_enter Tryz.func57, Tryz.ntmps57
    go_wp2_with (go_at_call 89; refine (refTake_any _ _ _ xs _ (by exact hs.alloc _) hN).mono ?_; rintro e w1 ⟨ao', m, c', rfl, hv, hb1⟩; rw [HE.out]; obtain ⟨hc, hf⟩ := bcell hb1; have hz : w.heap.size < w1.heap.size := by (have := hb1.size; simp at this; omega))
    refine bodyPost_ret (v := .tuple #[.agg #[.int .i64 0, .slice ao' m c'], .int .i64 err]) (by simp [results, Tryz.results57, go_sem, hc, hz]) rfl ⟨_, _, _, by rw [HO.out], ?_, ?_⟩
    · rw [HO.out]
      have hv' := hv
      try rw [HC.out] at hv'
      exact (((hv'.setBelow (by simp) _).setBelow (by simp) _).alloc _).rebase (by simp)
    · exact (((((Below.refl _ _).alloc (Nat.le_refl _) _).trans (hb1.mono (by simp))).setCell (by simp) _).setCell (by simp) _).alloc (by simp; omega) _
  · generalize xs.getD 0 0 = t at he
    rw [hl] at h4
    by_cases h6 : h < n
    · have ho : oneS xs = (0, [], 13) := by unfold oneS; rw [he, hl, if_neg (by simp), if_pos (by simp only []; omega)]
      have HE := hide he
      have HO := hide ho
      have h6' : ((h : Int) != (n : Int)) = true := by simp; omega
      clear he ho hl
      go_enter Tryz.func57, Tryz.ntmps57
      go_wp2_with (go_at_call 89; refine (refTake_any _ _ _ xs _ (by exact hs.alloc _) hN).mono ?_; rintro e w1 ⟨ao', m, c', rfl, hv, hb1⟩; rw [HE.out]; obtain ⟨hc, hf⟩ := bcell hb1; have hz : w.heap.size < w1.heap.size := by (have := hb1.size; simp at this; omega))
      refine bodyPost_ret (v := .tuple #[.agg #[.int .i64 0, .slice none 0 0], .int .i64 13]) (by simp [results, Tryz.results57, go_sem, hc, hz]) rfl ⟨none, 0, 0, by rw [HO.out], by rw [HO.out]; exact OwnB.nil _ _, ?_⟩
      exact (((((Below.refl _ _).alloc (Nat.le_refl _) _).trans (hb1.mono (by simp))).setCell (by simp) _).setCell (by simp) _).alloc (by simp; omega) _
    · have ho : oneS xs = (t, contS xs, 0) := by unfold oneS; rw [he, hl, if_neg (by simp), if_neg (by simp only []; omega)]
      have HE := hide he
      have HO := hide ho
      have h6' : ((h : Int) != (n : Int)) = false := by simp; omega
      clear he ho hl
      go_enter Tryz.func57, Tryz.ntmps57
      go_wp2_with (go_at_call 89; refine (refTake_any _ _ _ xs _ (by exact hs.alloc _) hN).mono ?_; rintro e w1 ⟨ao', m, c', rfl, hv, hb1⟩; rw [HE.out]; obtain ⟨hc, hf⟩ := bcell hb1; have hz : w.heap.size < w1.heap.size := by (have := hb1.size; simp at this; omega))
      refine bodyPost_ret (v := .tuple #[.agg #[.int .i64 t, .slice ao' m c'], .int .i64 0]) (by simp [results, Tryz.results57, go_sem, hc, hz]) rfl ⟨_, _, _, by rw [HO.out], ?_, ?_⟩
      · rw [HO.out]
        have hv' := hv
        try rw [HO.out] at hv'
        exact (((hv'.setBelow (by simp) _).setBelow (by simp) _).alloc _).rebase (by simp)
      · exact (((((Below.refl _ _).alloc (Nat.le_refl _) _).trans (hb1.mono (by simp))).setCell (by simp) _).setCell (by simp) _).alloc (by simp; omega) _

end Go.Proofs.YtklchpdpooikdaaGreatDoor

namespace Go.Proofs.YtklchpdpooikdaaGreatDoor
open Go.RowKit Go.IntWalk

theorem Tryz.infoR : (Tryz.prog.info? 74).map (fun i => (i.zero, i.size, i.bytes)) = some (some (.agg #[.int .i64 0, .slice none 0 0]), 2, 32) := by kernel_rfl

/-- The block of a row is of the row's type. -/
theorem row_type {W : World} {base : Nat} {e : TypeId} {size : Nat} {v : Value} {k : Nat} {xs : List Value} (h : W.ownsRow base e size v k xs) : ∀ r, v.ownBlock = some r → ∃ c, W.heap[r]? = some (Obj.cells c e (0, 0)) := by
  intro r hr
  obtain ⟨hl, ⟨rfl, _⟩ | ⟨g, cap, cur, rfl, hb, hh, rest⟩⟩ := h
  · simp [Value.ownBlock] at hr
  · simp [Value.ownBlock] at hr
    subst hr
    exact ⟨cur, hh⟩

/-- A row of another type stays while one grows. -/
theorem row_apart {W W' : World} {base base' : Nat} {e e' : TypeId} {size size' : Nat} {v v' : Value} {k k' : Nat} {xs xs' : List Value} (h : W.ownsRow base e size v k xs) (h' : W.ownsRow base' e' size' v' k' xs') (hne : e ≠ e') (hg : W.grownBy W' v'.ownBlock) : W'.ownsRow base e size v k xs :=
  row_kept h hg (fun r hr c hc => by
    obtain ⟨c', h2⟩ := row_type h' r hr
    rw [hc] at h2
    cases h2
    exact hne rfl)

theorem row_below {W W' : World} {base : Nat} {e : TypeId} {size : Nat} {v : Value} {k : Nat} {xs : List Value} (h : W.ownsRow base e size v k xs) (hb : Below W.heap.size W W') : W'.ownsRow base e size v k xs :=
  row_kept h (grown_of_below (r := none) hb) (by intro r e; cases e)

/-- 'append(l, x)' of an element. -/
theorem wpList_appR {ops : Array Oper} {rest : List Oper} {o : Oper} {a : Act} {Q : Exit → Act → World → Prop} (w : World) (hgd : o.guard = none) (s x : Operand)
    (ho : o.op = .call { callee := .builtin .append, args := #[s, x], argTypes := #[107, 107] })
    (base : Nat) (v : Value) (k : Nat) (cs : List Value) (hs : a.eval s = v) (hown : w.ownsRow base 74 2 v k cs)
    (ad : Addr) (t : Int) (ao : Option Addr) (m c : Nat) (hx : a.eval x = .slice (some ad) 1 1) (hcell : ∀ j u, [Value.int .i64 t, .slice ao m c][j]? = some u → w.cell? (ad.add j) = some u)
    (hb : k + 1 ≤ 4398046511104) (hbase : base ≤ w.heap.size)
    (h : ∀ g c' w', w'.ownsRow base 74 2 (.slice (some ⟨g, 0, none⟩) (k + 1) c') (k + 1) (cs ++ [.int .i64 t, .slice ao m c]) → base ≤ g → w.grownBy w' v.ownBlock →
      wpList Tryz.prog ops Q rest (a.put o.dst (.slice (some ⟨g, 0, none⟩) (k + 1) c')) w') :
    wpList Tryz.prog ops Q (o :: rest) a w := by
  obtain ⟨i0, hi, hz0, hz1, hz2⟩ := info_parts Tryz.infoR
  refine wpList_append_own_at (w := w) hgd s x 107 ho base 74 i0 _ 2 32 Tryz.underlying107 hi hz0 hz1 hz2 rfl (by decide) v k cs hs hown ad 1 1 [.int .i64 t, .slice ao m c] hx rfl hcell (by intro u hu; simp at hu; rcases hu with rfl | rfl <;> rfl) (by unfold maxLen; omega) (by omega) hbase ?_
  intro v' w' h1 h2 _ _
  have h1' := h1
  obtain ⟨_, ⟨_, h3⟩ | ⟨g, cap, cur, rfl, hb', hh, rest'⟩⟩ := h1'
  · simp at h3
  · exact h g cap w' h1 hb' h2

/-- Why no element stands behind them. -/
def rowErr (xs : List Int) : Int := if endS xs (placesS xs 0) < xs.length then (findS (xs.drop (endS xs (placesS xs 0)))).2.2.2 else 0

structure RowSt (w : World) (base : Nat) (L P : Value) (xs : List Int) (ps : List Nat) (cs : List Value) : Prop where
  hl : w.ownsRow base 74 2 L ps.length cs
  hm : EMatch w base cs (ps.map (elS xs))
  hp : OwnI w base P (ps.map fun p : Nat => (p : Int))

theorem RowSt.below {w w' : World} {base : Nat} {L P : Value} {xs : List Int} {ps : List Nat} {cs : List Value} (h : RowSt w base L P xs ps cs) (hb : Below w.heap.size w w') : RowSt w' base L P xs ps cs :=
  ⟨row_below h.hl hb, h.hm.kept (fun _ _ h => row_below h hb), row_below h.hp hb⟩

theorem RowSt.first {w3 W4 w4 : World} {base base' : Nat} {L P L' : Value} {xs : List Int} {ps : List Nat} {cs : List Value} {k : Nat} (St : RowSt w3 base L P xs ps cs) {ao : Option Addr} {m c : Nat} {ys : List Int} (hO : OwnB w3 base' (.slice ao m c) ys) (hbb : base ≤ base') (B : Below w3.heap.size w3 W4)
    (hg : W4.grownBy w4 L.ownBlock) (t : Int) (p : Nat) (hel : elS xs p = (t, ys)) (ho : w4.ownsRow base 74 2 L' (k + 1) (cs ++ [.int .i64 t, .slice ao m c])) (hk : (ps ++ [p]).length = k + 1) :
    w4.ownsRow base 74 2 L' (ps ++ [p]).length (cs ++ [.int .i64 t, .slice ao m c]) ∧ EMatch w4 base (cs ++ [.int .i64 t, .slice ao m c]) ((ps ++ [p]).map (elS xs)) ∧ OwnI w4 base P (ps.map fun p : Nat => (p : Int)) := by
  have hl := row_below St.hl B
  refine ⟨by rw [hk]; exact ho, ?_, row_apart (row_below St.hp B) hl (by decide) hg⟩
  have h1 : EMatch w4 base cs (ps.map (elS xs)) := St.hm.kept (fun _ _ h => row_apart (row_below h B) hl (by decide) hg)
  have h2 : OwnB w4 base (.slice ao m c) ys := row_apart (row_below (hO.rebase hbb) B) hl (by decide) hg
  rw [List.map_append, List.map_cons, List.map_nil, hel]
  exact EMatch.snoc h2 h1

theorem RowSt.second {w4 W5 w5 : World} {base : Nat} {L P P' : Value} {xs : List Int} {ps ps' : List Nat} {cs : List Value} (hl : w4.ownsRow base 74 2 L ps'.length cs) (hm : EMatch w4 base cs (ps'.map (elS xs))) (hp : OwnI w4 base P (ps.map fun p : Nat => (p : Int))) (B : Below w4.heap.size w4 W5)
    (hg : W5.grownBy w5 P.ownBlock) (ho : OwnI w5 base P' (ps'.map fun p : Nat => (p : Int))) : RowSt w5 base L P' xs ps' cs := by
  have hp' := row_below hp B
  exact ⟨row_apart (row_below hl B) hp' (by decide) hg, hm.kept (fun _ _ h => row_apart (row_below h B) hp' (by decide) hg), ho⟩

set_option maxRecDepth 100000 in
set_option maxHeartbeats 1000000 in
theorem refRow_any (ao : Option Addr) (n cap : Nat) (xs : List Int) (w : World) (hs : Src w ao n cap xs) (hN : (n : Int) ≤ 4398046511104) :
    Calls Tryz.prog 154 #[.slice ao n cap] w fun e w' => ∃ a1 a2 c1 c2 K cs err, e = .returned (.tuple #[.slice a1 K c1, .slice a2 K c2, .int .i64 (endS xs (placesS xs 0) : Int), .int .i64 err]) ∧ K = (placesS xs 0).length ∧ RowSt w' w.heap.size (.slice a1 K c1) (.slice a2 K c2) xs (placesS xs 0) cs ∧ err = rowErr xs ∧ (endS xs (placesS xs 0) < xs.length → err ≠ 0) ∧ Below w.heap.size w w' := by
  have HL := hide hs.hlen
  have hnc := hs.hcap
  go_enter Tryz.func154, Tryz.ntmps154
  go_wp2
  go_loopw [6, 7, 8, 9, 10, 11] (fun L P at_ _ _ _ wr => ∃ (p k : Nat) (a1 a2 : Option Addr) (c1 c2 : Nat) (ps : List Nat) (cs : List Value), L = .slice a1 k c1 ∧ P = .slice a2 k c2 ∧ at_ = .int .i64 p ∧ p ≤ n ∧ k ≤ p ∧ Hid (ps.length = k) ∧ Hid (placesS xs 0 = ps ++ placesS xs p) ∧ Hid (endS xs ps = p) ∧ Hid (RowSt wr w.heap.size (.slice a1 k c1) (.slice a2 k c2) xs ps cs) ∧ Below w.heap.size w wr) (fun _ _ a _ _ _ _ => n - (intOf a).toNat)
  case atStart => exact ⟨0, 0, none, none, 0, 0, [], [], rfl, rfl, rfl, Nat.zero_le _, Nat.le_refl _, rfl, rfl, rfl, ⟨World.ownsRow_nil _ _ _ _, trivial, OwnI.nil _ _⟩, Below.refl _ _⟩
  case round =>
    obtain ⟨p, k, a1, a2, c1, c2, ps, cs, rfl, rfl, rfl, hp, hkp, hk, hE, hEn, hS, hB⟩ := hrel
    have hBs := hB.size
    by_cases hlt : p < n
    · have pI : (p : Int) < (n : Int) := by omega
      have hs1 := (hs.below hB).cut p n (by omega) (Nat.le_refl _)
      have ed : (xs.take n).drop p = xs.drop p := by rw [List.take_of_length_le (by rw [HL.out]; exact Nat.le_refl _)]
      rw [ed] at hs1
      have sl := fun X => slice_lo X ao n cap p p rfl (by omega)
      generalize cutA ao cap p = A at hs1 sl
      have hcall := hide (refTake_any A (n - p) (cap - p) (xs.drop p) wr hs1 (by omega))
      rcases findS_cases (xs.drop p) hs1.hbyt with ⟨err, h1, h2, h3, he⟩ | ⟨l, h, he, h1, h2, h3, h4, h5⟩
      · have hst : Hid (placesS xs 0 = ps) := by unfold Hid; rw [hE.out, places_bad xs p err he, List.append_nil]
        have HEE : Hid ((findS (xs.drop p)).2.2.2 = err) := by unfold Hid; rw [he]
        rw [he] at hcall
        have hb1 : (err != 0) = true := by simpa using h1
        have HLT : Hid (p < xs.length) := by unfold Hid; rw [HL.out]; exact hlt
        clear he ed h1 hs1
        go_wp2_with (go_at_call 89; refine hcall.out.mono ?_; rintro e w3 ⟨ao', m, c', rfl, hO, B3⟩)
        refine bodyPost_ret (v := .tuple #[.slice a1 k c1, .slice a2 k c2, .int .i64 p, .int .i64 err]) (by simp [results, Tryz.results154, go_sem]) rfl ⟨a1, a2, c1, c2, k, cs, err, by rw [hst.out, hEn.out], by rw [hst.out, hk.out], ?_, by unfold rowErr; rw [hst.out, hEn.out, if_pos HLT.out, HEE.out], fun _ => by simpa using hb1, ?_⟩
        · rw [hst.out]
          exact (hS.out.below B3).below ((Below.refl _ _).alloc (Nat.le_refl _) _)
        · exact (hB.trans (B3.mono hBs)).alloc (by have := B3.size; omega) _
      · obtain ⟨t, ht⟩ : ∃ t, (xs.drop p).getD 0 0 = t := ⟨_, rfl⟩
        rw [ht] at he
        have hh : h ≤ n - p := by have := h4; rw [List.length_drop, HL.out] at this; exact this
        have hst : Hid (placesS xs 0 = (ps ++ [p]) ++ placesS xs (p + h)) := by
          unfold Hid
          rw [hE.out, places_ok xs p t l h (by rw [HL.out]; exact hlt) he (by omega)]
          simp
        have HEN : Hid (endS xs (ps ++ [p]) = p + h) := by unfold Hid; rw [endS_snoc, he]; simp
        have HEL : Hid (elS xs p = (t, contS (xs.drop p))) := by unfold Hid elS; rw [he]
        have hlk : Hid ((ps ++ [p]).length = k + 1) := by unfold Hid; rw [List.length_append, hk.out]; rfl
        rw [he] at hcall
        have wI : IntKind.i64.wrap ((p : Int) + (h : Int)) = (p : Int) + (h : Int) := i64_in _ (by omega)
        have HLk : Hid (wr.ownsRow w.heap.size 74 2 (.slice a1 k c1) k cs) := by have h9 := hS.out.hl; rw [hk.out] at h9; exact h9
        have hkb : k + 1 ≤ 4398046511104 := by omega
        have HKB := hide hkb
        have hpI : (p : Int) ≤ 4398046511104 := by omega
        clear he ed hs1 ht h4 hE hkb
        go_wp2_with (first | (go_at_call 89; refine hcall.out.mono ?_; rintro e w3 ⟨ao', m, c', rfl, hO, B3⟩; have s3 := B3.size) | (at_builtin; refine wpList_appR _ rfl (.tmp 30) (.tmp 32) rfl w.heap.size (.slice a1 k c1) k cs rfl (row_below (row_below HLk.out B3) (((Below.refl _ _).alloc (Nat.le_refl _) _).alloc (by simp) _)) ⟨w3.heap.size + 1, 0, none⟩ t ao' m c' rfl (by simpa using cell_two_new (w3.alloc (.cells #[.int .i64 t, .slice ao' m c'] 74)) (.int .i64 t) (.slice ao' m c') 74) HKB.out (by simp; omega) ?_; intro g4 c4 w4 ho4 hb4 hg4; obtain ⟨q1, q2, q3⟩ := RowSt.first (hS.out.below B3) hO hBs (((Below.refl _ _).alloc (Nat.le_refl _) _).alloc (by simp) _) hg4 t p HEL.out ho4 hlk.out; have Q1 := hide q1; have Q2 := hide q2; have Q3 := hide q3; have hB4 : Below w.heap.size w w4 := (((hB.trans (B3.mono hBs)).alloc (by omega) _).alloc (by simp; omega) _).grown hg4 (by simp; omega) (by intro q hq; exact (World.ownsRow.lt HLk.out q hq).1); have s4 := hB4.size; clear ho4 hg4 q1 q2 q3) | (at_builtin; refine wpList_appIN _ rfl (.tmp 34) (.tmp 36) rfl w.heap.size (.slice a2 k c2) (ps.map fun p : Nat => (p : Int)) rfl (Q3.out.alloc _) (some ⟨w4.heap.size, 0, none⟩) 1 1 [(p : Int)] rfl (SrcI.litAt [(p : Int)] _ 1 _ rfl rfl (by simp; omega) (by decide) rfl) (k + 1) (by rw [List.length_append, List.length_map, hk.out]; rfl) (.inr (by simp)) (by have := HKB.out; omega) (by simp; omega) ?_; intro g5 c5 w5 ho5 hb5 hl5 hc5 hm5 hg5; have hB5 : Below w.heap.size w w5 := (hB4.alloc s4 _).grown hg5 (by simp; omega) (by intro q hq; exact (Q3.out.lt q hq).1); have HS5 := hide (RowSt.second Q1.out Q2.out Q3.out ((Below.refl _ _).alloc (Nat.le_refl _) _) hg5 (by rw [List.map_append]; exact ho5)); clear ho5 hg5))
        go_roundw
        case rel => exact ⟨p + h, k + 1, _, _, c4, c5, ps ++ [p], _, rfl, rfl, by go_num, by omega, by omega, hlk, hst, HEN, HS5, hB5⟩
        case measure => simp [intOf] <;> omega
    · have hst : Hid (placesS xs 0 = ps) := by unfold Hid; rw [hE.out, places_end xs p (by rw [HL.out]; omega), List.append_nil]
      have pI : ¬ (p : Int) < (n : Int) := by omega
      go_wp2
      refine bodyPost_ret (v := .tuple #[.slice a1 k c1, .slice a2 k c2, .int .i64 p, .int .i64 0]) (by simp [results, Tryz.results154, go_sem]) rfl ⟨a1, a2, c1, c2, k, cs, 0, by rw [hst.out, hEn.out], by rw [hst.out, hk.out], by rw [hst.out]; exact hS.out, by unfold rowErr; rw [hst.out, hEn.out, if_neg (by rw [HL.out]; exact hlt)], fun h => by rw [hst.out, hEn.out, HL.out] at h; exact absurd h hlt, hB⟩

end Go.Proofs.YtklchpdpooikdaaGreatDoor
