/-
  oid.Text: the numbers in decimal digits, points between them (txtC), or a refusal.
-/
import Derived.Test.YtfcjahdkpjbggaaDoorOTxt0
import Derived.Lib.AppendIntMem
namespace Go.Proofs.YtfcjahdkpjbggaaDoor
open Go.RowKit Go.IntWalk

/-- The library's table of the powers of ten lies as it was laid. -/
def Pow (w : World) : Prop := Lib.TabIs Tryd.prog w "internal/strconv.uint64pow10" .u64 Lib.pow10Tab

theorem Pow.grown {w w' : World} {row : Option Nat} (h : Pow w) (hg : w.grownBy w' row) (hr : some 0 ≠ row) : Pow w' := by
  have hgn : Tryd.prog.globalNamed "internal/strconv.uint64pow10" = some 0 := by kernel_rfl
  unfold Pow Lib.TabIs World.var? at h ⊢
  rw [hgn] at h ⊢
  simp only [Option.bind_some] at h ⊢
  have hlt : 0 < w.heap.size := by
    rcases Nat.lt_or_ge 0 w.heap.size with h' | h'
    · exact h'
    · rw [Array.getElem?_eq_none h'] at h; cases h
  rw [hg.block 0 hlt hr]
  exact h

theorem Pow.below {w w' : World} (h : Pow w) (hb : Below w.heap.size w w') : Pow w' :=
  h.grown (row := none) ⟨hb.os, hb.tape, hb.output, hb.size, fun k hk _ => hb.block k hk⟩ (by simp)

theorem Pow.pos {w : World} (h : Pow w) : 0 < w.heap.size := by
  have hgn : Tryd.prog.globalNamed "internal/strconv.uint64pow10" = some 0 := by kernel_rfl
  unfold Pow Lib.TabIs World.var? at h
  rw [hgn] at h
  simp only [Option.bind_some] at h
  rcases Nat.lt_or_ge 0 w.heap.size with h' | h'
  · exact h'
  · rw [Array.getElem?_eq_none h'] at h; cases h

theorem itoa_any (x : Int) (h0 : 0 ≤ x) (h1 : x ≤ 2147483647) (w : World) (ht : Pow w) :
    Calls Tryd.prog 12 #[.int .i64 x] w fun e w' => e = .returned (.string ⟨(Lib.itoa x).toArray⟩) ∧ Below w.heap.size w w' := by
  refine (Tryd.strconv_Itoa x (by omega) (by omega) w ht).mono ?_
  rintro e w' ⟨rfl, k, os, rfl⟩
  exact ⟨rfl, Lib.below_grow _ w (Nat.le_refl _) k os⟩

def digT (x : Int) : ByteArray := ⟨(Lib.itoa x).toArray⟩

theorem join_digT (xs : List Int) : Lib.join ((xs.map digT).map (·.data.toList)) (⟨#[46]⟩ : ByteArray).data.toList = txtL xs := by
  unfold txtL
  rw [List.map_map]
  rfl

theorem txtL_len (xs : List Int) (h : ∀ x ∈ xs, 0 ≤ x ∧ x ≤ 2147483647) : (txtL xs).length ≤ 22 * xs.length := by
  cases xs with
  | nil => simp [txtL, Lib.join, List.intercalate]
  | cons x l =>
    have h1 := tail_len l (fun y hy => h y (List.mem_cons_of_mem _ hy))
    have h2 := h x (List.mem_cons_self ..)
    have h3 := Lib.itoa_length_le x (by omega) (by omega)
    rw [txtL_cons, List.length_append, List.length_cons]
    omega

set_option maxRecDepth 100000 in
set_option maxHeartbeats 1000000 in
theorem text_any (ao : Option Addr) (n cap : Nat) (xs : List Int) (w : World) (hs : SrcI w ao n cap xs) (hp : Pow w) :
    Calls Tryd.prog 6 #[.slice ao n cap] w fun e w' => e = .returned (.tuple #[.string (txtC xs), .int .i64 (encE xs)]) ∧ Below w.heap.size w w' := by
  have HL := hide hs.hlen
  have Hp := hide hp
  clear hp
  have Hm := hide (may_any ao n cap xs w hs)
  cases hm : mayS xs with
  | false =>
    rw [hm] at Hm
    have e1 : txtC xs = ⟨#[]⟩ := by simp [txtC, hm]
    have e2 : encE xs = 2 := by simp [encE, hm]
    rw [e1, e2]
    clear e1 e2 hm
    go_enter Tryd.func6, Tryd.ntmps6
    go_wp2_with fail
    refine Hm.out.mono ?_
    rintro e w1 ⟨rfl, hD⟩
    go_wp2
    refine bodyPost_ret (v := .tuple #[.string ⟨#[]⟩, .int .i64 2]) (by simp [results, Tryd.results6, go_sem]) rfl ⟨rfl, hD.toBelow _⟩
  | true =>
    rw [hm] at Hm
    have e1 : txtC xs = ⟨(txtL xs).toArray⟩ := by simp [txtC, hm]
    have e2 : encE xs = 0 := by simp [encE, hm]
    obtain ⟨p2, p20, pall, _⟩ := may_parts hm
    rw [e1, e2]
    clear e1 e2 hm
    have HP := hide pall
    clear pall
    rw [HL.out] at p2 p20
    have hm20 : (n : Int) ≤ 20 := by omega
    go_enter Tryd.func6, Tryd.ntmps6
    go_wp2_with fail
    refine Hm.out.mono ?_
    rintro e w1 ⟨rfl, hD⟩
    have hs1 := hide (hs.heap hD.heap)
    have Hp1 := hide (Hp.out.below (hD.toBelow _))
    go_wp2
    have hn1 : (n : Int) = ((n : Nat) : Int) := rfl
    go_loopw [4, 6, 12] (fun v _ i wr => ∃ (k : Nat) (aO : Option Addr) (cO : Nat), k ≤ n ∧ i = .int .i64 k ∧ v = .slice aO k cO ∧ Hid (OwnS wr w1.heap.size (.slice aO k cO) ((xs.take k).map digT)) ∧ Hid (Pow wr) ∧ Below w1.heap.size w1 wr) (fun _ _ i _ => n - (intOf i).toNat)
    case atStart => exact ⟨0, none, 0, Nat.zero_le _, rfl, rfl, OwnS.nil _ _, Hp1, Below.refl _ _⟩
    case round =>
      obtain ⟨k, aO, cO, hk, rfl, rfl, hO, hP, hB⟩ := hrel
      have hBs := hB.size
      by_cases hlt : k < n
      · have st := hs1.out.below hB
        obtain ⟨b2, o2, hA, e1⟩ := st.at k hlt
        subst hA
        have hx : Hid (0 ≤ xs.getD k 0 ∧ xs.getD k 0 ≤ 2147483647) := by
          unfold Hid
          rw [List.getD, List.getElem?_eq_getElem (by rw [HL.out]; exact hlt)]
          exact HP.out _ (List.getElem_mem _)
        have hnx : Hid ((xs.take (k + 1)).map digT = (xs.take k).map digT ++ [digT (xs.getD k 0)]) := by
          unfold Hid
          rw [List.take_add_one, List.map_append]
          simp [List.getD, show k < xs.length by rw [HL.out]; exact hlt]
        have hll : Hid (((xs.take k).map digT).length + 1 = k + 1) := by
          unfold Hid
          rw [List.length_map, List.length_take, HL.out]
          omega
        generalize xs.getD k 0 = x at e1 hx hnx
        generalize (xs.take k).map digT = S at hO hnx hll
        have hcall := hide (itoa_any x hx.out.1 hx.out.2 wr hP.out)
        have hZ : Hid ((⟨(Lib.itoa x).toArray⟩ : ByteArray) = digT x) := rfl
        rw [hZ.out] at hcall
        clear hZ
        generalize digT x = Z at hcall hnx
        have kI : (k : Int) < (n : Int) := by omega
        go_wp2_with (first | (go_at_call 12; refine hcall.out.mono ?_; rintro e w3 ⟨rfl, B3⟩; have z3 := B3.size) | (at_builtin; refine wpList_appS _ rfl (.tmp 16) (.tmp 19) rfl w1.heap.size (.slice aO k cO) S rfl ((hO.out.belowA B3).alloc _) w3.heap.size Z rfl (by simp) (k + 1) hll.out (by omega) (by simp; omega) ?_; intro g4 c4 w4 ho4 hb4 hl4 hc4 hm4 hg4))
        have hgb : Hid (∀ q, (Value.slice aO k cO).ownBlock = some q → w1.heap.size ≤ q) := fun q hq => (hO.out.lt q hq).1
        have hB4 : Below w1.heap.size w1 w4 := ((hB.trans (B3.mono hBs)).alloc (by omega) _).grown hg4 (by simp; omega) hgb.out
        have hP4 : Hid (Pow w4) := Hp1.out.below hB4
        go_roundw
        case rel => exact ⟨k + 1, _, _, by omega, by go_num, rfl, by rw [hnx.out]; exact ho4, hP4, hB4⟩
        case measure => simp [intOf]; omega
      · obtain rfl : k = n := by omega
        have hxs : Hid (xs.take k = xs) := by unfold Hid; rw [List.take_of_length_le (by rw [HL.out]; exact Nat.le_refl _)]
        rw [hxs.out] at hO
        have hln : Hid ((xs.map digT).length = k) := by unfold Hid; rw [List.length_map]; exact HL.out
        rcases hO.out.split with ⟨h1, h2⟩ | ⟨g, c, h1, hg1, hg2, hg3, hg4⟩
        · simp at h2
          rw [h2] at HL
          have := HL.out
          simp at this
          omega
        simp only [Value.slice.injEq] at h1
        obtain ⟨rfl, hk0, rfl⟩ := h1
        clear hk0
        have hj := hide (Tryd.strings_Join g 0 cO (xs.map digT) ⟨#[46]⟩ wr hO.out.cells hg2 (by rw [hln.out]; omega) hg3 (by rw [join_digT]; have := txtL_len xs HP.out; have := HL.out; omega))
        rw [join_digT, hln.out] at hj
        clear hg3
        go_wp2_with (go_at_call 13; refine hj.out.mono ?_; rintro e w5 ⟨rfl, B5⟩)
        refine bodyPost_ret (v := .tuple #[.string ⟨(txtL xs).toArray⟩, .int .i64 0]) (by simp [results, Tryd.results6, go_sem]) rfl ⟨rfl, (hD.toBelow _).trans ((hB.trans (B5.mono hBs)).mono (by rw [hD.heap]; exact Nat.le_refl _))⟩

end Go.Proofs.YtfcjahdkpjbggaaDoor
