/-
  The document's Fold: a text as it is compared.
  The document's Alike, Begins and Same of rows of attributes.
  Lent attributes: a row of attributes of the call's own, with a mark behind it.
  The statements' own calls lent, kept, names, works.
  Rows of attributes that grow: append of one, as a step of its own; how long the values are that are read.
  The document's put: the bytes of an element.
-/
import Derived.Test.YtcbcdfdicefkoaaGreatDoorYNmInsToTxR1
import Derived.Test.YtcbcdfdicefkoaaGreatDoorYTxW1ToTxF1
import Derived.Test.YtcbcdfdicefkoaaGreatDoorYOEncToTxL2
import Derived.Test.YtcbcdfdicefkoaaGreatDoorYTxL0ToPut
import Derived.Test.YtcbcdfdicefkoaaGreatDoorYNmRowToNmThere
import Derived.Deep.QuietTactic
import Derived.BigQuiet
import Derived.Maps.AppendAt
import Derived.Laws.AppendOwnNone
import Derived.Test.YtcbcdfdicefkoaaGreatDoorYNmEncNToWiM
import Derived.Test.YtcbcdfdicefkoaaGreatDoorYLenToRMay
namespace Go.Proofs.YtcbcdfdicefkoaaGreatDoor
open Go.RowKit Go.IntWalk
attribute [local go_sem ↓] appOf_of

set_option maxRecDepth 100000 in
set_option maxHeartbeats 4000000 in
theorem refFold_any (s : ByteArray) (hs : s.size ≤ 1048576) (w : World) :
    Calls Tryz.prog 111 #[.string s] w fun e w' => e = .returned (.string (foldS s)) ∧ Below w.heap.size w w' := by
  have hW := hide (refWords_any s hs w)
  have hps := hide (wordsL_pos s.data.toList)
  have hsp : Hid (spanW (wordsL s.data.toList) ≤ s.size + 1) := by unfold Hid; have := spanW_le s.data.toList []; rw [size_len] at this; simpa [wordsL] using this
  have hfo : Hid (foldL s.data.toList = lay [] (wordsL s.data.toList)) := rfl
  have hcnt : Hid ((wordsL s.data.toList).length ≤ s.size + 1) := Nat.le_trans (words_count _) hsp.out
  have hfin : Hid (foldS s = ⟨(foldL s.data.toList).toArray⟩) := rfl
  generalize foldS s = FS at hfin ⊢
  generalize foldL s.data.toList = FL at hfo hfin
  generalize wordsL s.data.toList = W at hsp hfo hcnt hW hps
  go_enter Tryz.func111, Tryz.ntmps111
  go_wp2_with (go_at_call 136; refine hW.out.mono ?_; rintro e w1 ⟨ao, c, rfl, o1, B1⟩)
  have HO := hide (And.intro o1 B1)
  clear hW o1 B1
  go_loopw [4, 5] (fun b i wr => ∃ (acc : List UInt8) (aB : Option Addr) (cB n : Nat), b = .slice aB acc.length cB ∧ i = .int .i64 n ∧ n ≤ W.length ∧ Hid (OwnB wr w1.heap.size (.slice aB acc.length cB) (nums acc) ∧ Below w1.heap.size w1 wr) ∧ Hid (FL = lay acc (W.drop n)) ∧ Hid (acc.length + spanW (W.drop n) ≤ s.size + 1) ∧ Hid (n = 0 ↔ acc.length = 0)) (fun _ i _ => W.length - (intOf i).toNat)
  case atStart => exact ⟨[], none, 0, 0, rfl, rfl, Nat.zero_le _, ⟨OwnB.nil _ _, Below.refl _ _⟩, hfo, by simpa using hsp, by simp [Hid]⟩
  case round =>
    obtain ⟨acc, aB, cB, n, rfl, rfl, hn, HB, HL, HS, HZ⟩ := hrel
    by_cases hlt : n < W.length
    · have hltI : (n : Int) < (W.length : Int) := by omega
      obtain ⟨u, hu⟩ : ∃ u, W[n]'hlt = u := ⟨_, rfl⟩
      have hdr : W.drop n = u :: W.drop (n + 1) := by rw [List.drop_eq_getElem_cons hlt, hu]
      obtain ⟨g, hg⟩ : ∃ g, ao = some ⟨g, 0, none⟩ := by
        rcases HO.out.1.split with ⟨_, h⟩ | ⟨g, cap, h, _⟩
        · have h2 : (texts W).length = 0 := by rw [h]; rfl
          unfold texts at h2
          rw [List.length_map] at h2
          omega
        · exact ⟨g, (Value.slice.inj h).1⟩
      subst hg
      have hcl : w1.cell? ⟨g, n, none⟩ = some (.string ⟨u.toArray⟩) := by
        have h := HO.out.1.cells n ⟨u.toArray⟩ (by simp [texts, hlt, hu])
        rwa [Nat.zero_add] at h
      have hgl : Hid (g < w1.heap.size) := lt_of_cell hcl
      have HC : Hid (∀ X, Below w1.heap.size w1 X → X.cell? ⟨g, n, none⟩ = some (.string ⟨u.toArray⟩)) := fun X hX => by
        rw [← hcl]
        exact (bcell hX).1 g n hgl.out
      rw [hdr] at HL HS
      have hgp : Hid (gap acc = if acc.length = 0 then acc else acc ++ [32]) := rfl
      have HL2 : Hid (FL = lay (gap acc ++ u.map smallB) (W.drop (n + 1))) := HL
      have HS2 : Hid (acc.length + (u.length + 1 + spanW (W.drop (n + 1))) ≤ s.size + 1) := HS
      have hus : Hid ((⟨u.toArray⟩ : ByteArray).size = u.length) := by unfold Hid; rfl
      have hub : Hid (∀ (k : Nat) (h : k < u.length) (h2 : k < (⟨u.toArray⟩ : ByteArray).size), ((⟨u.toArray⟩ : ByteArray)[k]'h2) = u[k]'h) := by intro k h h2; rfl
      have hcr := HC.out _ HB.out.2
      have hup : Hid (0 < u.length) := hps.out u (by rw [← hu]; exact List.getElem_mem hlt)
      have huL : u.length ≤ 1048577 := by have := HS2.out; omega
      have hWL : W.length ≤ 1048577 := by have := hcnt.out; omega
      clear HL HS hcl hdr hu
      by_cases h0 : n = 0
      · have ha := HZ.out.1 h0
        rw [if_pos ha] at hgp
        have hG := HB
        have hgl2 : Hid ((gap acc).length ≤ acc.length + 1) := by unfold Hid; rw [hgp.out]; omega
        have nI : ¬ (0 : Int) < (n : Int) := by omega
        clear HB ha h0
        go_wp2
        go_loopw [4, 6] (fun b kk wq => ∃ (cur : List UInt8) (aP : Option Addr) (cP k : Nat), b = .slice aP cur.length cP ∧ kk = .int .i64 k ∧ k ≤ u.length ∧ Hid (cur = gap acc ++ (u.take k).map smallB) ∧ Hid (OwnB wq w1.heap.size (.slice aP cur.length cP) (nums cur) ∧ Below w1.heap.size w1 wq)) (fun _ kk _ => u.length - (intOf kk).toNat)
        case atStart => exact ⟨acc, _, _, 0, by simp, rfl, Nat.zero_le _, by unfold Hid; rw [hgp.out]; simp, hG⟩
        case round =>
          obtain ⟨cur, aP, cP, k, rfl, rfl, hk, HE, HI⟩ := hrel
          have hcq := HC.out _ HI.out.2
          by_cases hku : k < u.length
          · have hsz : k < (⟨u.toArray⟩ : ByteArray).size := by rw [hus.out]; exact hku
            have hbyte := hub.out k hku hsz
            have hkI : (k : Int) < (u.length : Int) := by omega
            have hsm := small_num (u[k]'hku)
            have hcl2 : Hid (cur.length + 1 ≤ 140737488355328) := by unfold Hid; rw [HE.out]; have h1 := hgl2.out; have h2 := HS2.out; simp; omega
            obtain ⟨g4, c4, w4, hrun, ho4, hg4⟩ := app_byte HI.out.1 (smallB (u[k]'hku)) hcl2.out HI.out.2.size
            have HE4 : Hid (cur ++ [smallB (u[k]'hku)] = gap acc ++ (u.take (k + 1)).map smallB) := by unfold Hid; rw [take_nextI u k hku, HE.out, List.append_assoc]
            have H4 : Hid (OwnB w4 w1.heap.size (.slice (some ⟨g4, 0, none⟩) (cur ++ [smallB (u[k]'hku)]).length c4) (nums (cur ++ [smallB (u[k]'hku)])) ∧ Below w1.heap.size w1 w4) := by
              unfold Hid
              have e2 : (cur ++ [smallB (u[k]'hku)]).length = cur.length + 1 := by simp
              rw [e2]
              exact ⟨ho4, (HI.out.2.alloc HI.out.2.size _).grown hg4 (by have := HI.out.2.size; simp; omega) (fun j hj => (HI.out.1.lt j hj).1)⟩
            rw [hsm] at hrun
            have hX := (u[k]'hku).toNat_lt
            generalize smallB (u[k]'hku) = sb at HE4 H4
            generalize u[k]'hku = ub at hbyte hrun hX
            clear hsm ho4 hg4 HI hG HE hcl2
            by_cases hgr : (65 : Int) ≤ (ub.toNat : Int) ∧ (ub.toNat : Int) ≤ 90
            · rw [if_pos hgr] at hrun
              have q1 := hgr.1
              have q2 := hgr.2
              clear hgr
              go_wp2
              go_roundw
              case rel => exact ⟨cur ++ [sb], _, _, k + 1, by simp, by simp, by omega, HE4, H4⟩
              case measure => simp [intOf]; omega
            · rw [if_neg hgr] at hrun
              by_cases q1 : (65 : Int) ≤ (ub.toNat : Int)
              · have q2 : ¬ (ub.toNat : Int) ≤ 90 := fun h => hgr ⟨q1, h⟩
                clear hgr
                go_wp2
                go_roundw
                case rel => exact ⟨cur ++ [sb], _, _, k + 1, by simp, by simp, by omega, HE4, H4⟩
                case measure => simp [intOf]; omega
              · clear hgr
                go_wp2
                go_roundw
                case rel => exact ⟨cur ++ [sb], _, _, k + 1, by simp, by simp, by omega, HE4, H4⟩
                case measure => simp [intOf]; omega
          · obtain rfl : k = u.length := by omega
            have hkI : ¬ (u.length : Int) < (u.length : Int) := by omega
            have HE2 : Hid (cur = gap acc ++ u.map smallB) := by unfold Hid; rw [HE.out, List.take_length]
            have HL3 : Hid (FL = lay cur (W.drop (n + 1))) := by unfold Hid; rw [HE2.out]; exact HL2.out
            have HS3 : Hid (cur.length + spanW (W.drop (n + 1)) ≤ s.size + 1) := by unfold Hid; rw [HE2.out]; have h1 := hgl2.out; have h2 := HS2.out; simp; omega
            have HZ3 : Hid (n + 1 = 0 ↔ cur.length = 0) := by unfold Hid; rw [HE2.out]; have h1 := hup.out; simp; intro _ h; rw [h] at h1; simp at h1
            clear hG HE HE2 HL2 HS2
            go_wp2
            go_roundw
            case rel => exact ⟨cur, _, _, n + 1, rfl, by simp, by omega, HI, HL3, HS3, HZ3⟩
            case measure => simp [intOf]; omega
      · have ha : ¬ acc.length = 0 := fun h => h0 (HZ.out.2 h)
        rw [if_neg ha] at hgp
        obtain ⟨g5, c5, w5, hrun, ho5, hg5⟩ := app_byte HB.out.1 32 (by have := HS2.out; omega) HB.out.2.size
        have hG : Hid (OwnB w5 w1.heap.size (.slice (some ⟨g5, 0, none⟩) (acc ++ [32]).length c5) (nums (acc ++ [32])) ∧ Below w1.heap.size w1 w5) := by
          have e : (acc ++ [32]).length = acc.length + 1 := by simp
          unfold Hid
          rw [e]
          exact ⟨ho5, (HB.out.2.alloc HB.out.2.size _).grown hg5 (by have := HB.out.2.size; simp; omega) (fun j hj => (HB.out.1.lt j hj).1)⟩
        have hgl2 : Hid ((gap acc).length ≤ acc.length + 1) := by unfold Hid; rw [hgp.out]; simp
        have e32 : ((32 : UInt8).toNat : Int) = 32 := rfl
        rw [e32] at hrun
        have nI : (0 : Int) < (n : Int) := by omega
        clear HB ho5 hg5 e32 ha h0
        go_wp2
        clear hrun
        go_loopw [4, 6] (fun b kk wq => ∃ (cur : List UInt8) (aP : Option Addr) (cP k : Nat), b = .slice aP cur.length cP ∧ kk = .int .i64 k ∧ k ≤ u.length ∧ Hid (cur = gap acc ++ (u.take k).map smallB) ∧ Hid (OwnB wq w1.heap.size (.slice aP cur.length cP) (nums cur) ∧ Below w1.heap.size w1 wq)) (fun _ kk _ => u.length - (intOf kk).toNat)
        case atStart => exact ⟨acc ++ [32], _, _, 0, by simp, rfl, Nat.zero_le _, by unfold Hid; rw [hgp.out]; simp, hG⟩
        case round =>
          obtain ⟨cur, aP, cP, k, rfl, rfl, hk, HE, HI⟩ := hrel
          have hcq := HC.out _ HI.out.2
          by_cases hku : k < u.length
          · have hsz : k < (⟨u.toArray⟩ : ByteArray).size := by rw [hus.out]; exact hku
            have hbyte := hub.out k hku hsz
            have hkI : (k : Int) < (u.length : Int) := by omega
            have hsm := small_num (u[k]'hku)
            have hcl2 : Hid (cur.length + 1 ≤ 140737488355328) := by unfold Hid; rw [HE.out]; have h1 := hgl2.out; have h2 := HS2.out; simp; omega
            obtain ⟨g4, c4, w4, hrun, ho4, hg4⟩ := app_byte HI.out.1 (smallB (u[k]'hku)) hcl2.out HI.out.2.size
            have HE4 : Hid (cur ++ [smallB (u[k]'hku)] = gap acc ++ (u.take (k + 1)).map smallB) := by unfold Hid; rw [take_nextI u k hku, HE.out, List.append_assoc]
            have H4 : Hid (OwnB w4 w1.heap.size (.slice (some ⟨g4, 0, none⟩) (cur ++ [smallB (u[k]'hku)]).length c4) (nums (cur ++ [smallB (u[k]'hku)])) ∧ Below w1.heap.size w1 w4) := by
              unfold Hid
              have e2 : (cur ++ [smallB (u[k]'hku)]).length = cur.length + 1 := by simp
              rw [e2]
              exact ⟨ho4, (HI.out.2.alloc HI.out.2.size _).grown hg4 (by have := HI.out.2.size; simp; omega) (fun j hj => (HI.out.1.lt j hj).1)⟩
            rw [hsm] at hrun
            have hX := (u[k]'hku).toNat_lt
            generalize smallB (u[k]'hku) = sb at HE4 H4
            generalize u[k]'hku = ub at hbyte hrun hX
            clear hsm ho4 hg4 HI hG HE hcl2
            by_cases hgr : (65 : Int) ≤ (ub.toNat : Int) ∧ (ub.toNat : Int) ≤ 90
            · rw [if_pos hgr] at hrun
              have q1 := hgr.1
              have q2 := hgr.2
              clear hgr
              go_wp2
              go_roundw
              case rel => exact ⟨cur ++ [sb], _, _, k + 1, by simp, by simp, by omega, HE4, H4⟩
              case measure => simp [intOf]; omega
            · rw [if_neg hgr] at hrun
              by_cases q1 : (65 : Int) ≤ (ub.toNat : Int)
              · have q2 : ¬ (ub.toNat : Int) ≤ 90 := fun h => hgr ⟨q1, h⟩
                clear hgr
                go_wp2
                go_roundw
                case rel => exact ⟨cur ++ [sb], _, _, k + 1, by simp, by simp, by omega, HE4, H4⟩
                case measure => simp [intOf]; omega
              · clear hgr
                go_wp2
                go_roundw
                case rel => exact ⟨cur ++ [sb], _, _, k + 1, by simp, by simp, by omega, HE4, H4⟩
                case measure => simp [intOf]; omega
          · obtain rfl : k = u.length := by omega
            have hkI : ¬ (u.length : Int) < (u.length : Int) := by omega
            have HE2 : Hid (cur = gap acc ++ u.map smallB) := by unfold Hid; rw [HE.out, List.take_length]
            have HL3 : Hid (FL = lay cur (W.drop (n + 1))) := by unfold Hid; rw [HE2.out]; exact HL2.out
            have HS3 : Hid (cur.length + spanW (W.drop (n + 1)) ≤ s.size + 1) := by unfold Hid; rw [HE2.out]; have h1 := hgl2.out; have h2 := HS2.out; simp; omega
            have HZ3 : Hid (n + 1 = 0 ↔ cur.length = 0) := by unfold Hid; rw [HE2.out]; have h1 := hup.out; simp; intro _ h; rw [h] at h1; simp at h1
            clear hG HE HE2 HL2 HS2
            go_wp2
            go_roundw
            case rel => exact ⟨cur, _, _, n + 1, rfl, by simp, by omega, HI, HL3, HS3, HZ3⟩
            case measure => simp [intOf]; omega
    · obtain rfl : n = W.length := by omega
      have hE : Hid (FL = acc) := by unfold Hid; rw [HL.out, List.drop_length]; rfl
      have ht := (HB.out.1.toSrc (nums_bytes acc)).text
      rw [nums_text] at ht
      have hnI : ¬ (W.length : Int) < (W.length : Int) := by omega
      go_wp2
      go_ret
      refine ⟨by rw [hfin.out, hE.out]; rfl, HO.out.2.trans (HB.out.2.mono HO.out.2.size)⟩

end Go.Proofs.YtcbcdfdicefkoaaGreatDoor

namespace Go.Proofs.YtcbcdfdicefkoaaGreatDoor
open Go.RowKit Go.IntWalk Go.Shelf

theorem bs_ne {a b : ByteArray} (h : a ≠ b) : (a.toList == b.toList) = false := by
  rw [beq_eq_false_iff_ne, ByteArray.toList_eq, ByteArray.toList_eq]
  intro e
  exact h (ByteArray.ext (Array.ext' e))

end Go.Proofs.YtcbcdfdicefkoaaGreatDoor

namespace Go.Proofs.YtcbcdfdicefkoaaGreatDoor
open Go.RowKit Go.IntWalk Go.Shelf

/-- The cells of a row of attributes. -/
def acells : List (Int × ByteArray) → List Value
  | [] => []
  | x :: r => .int .i64 x.1 :: .string x.2 :: acells r
theorem acells_len : ∀ xs, (acells xs).length = xs.length * 2
  | [] => rfl
  | x :: r => by rw [acells, List.length_cons, List.length_cons, acells_len r, List.length_cons]; omega
theorem acells_app : ∀ xs ys, acells (xs ++ ys) = acells xs ++ acells ys
  | [], _ => rfl
  | x :: r, ys => by rw [List.cons_append, acells, acells_app r ys]; rfl
theorem acells_at : ∀ (xs : List (Int × ByteArray)) (i : Nat), i < xs.length → (acells xs)[i * 2]? = some (.int .i64 (xs.getD i (0, ByteArray.empty)).1) ∧ (acells xs)[i * 2 + 1]? = some (.string (xs.getD i (0, ByteArray.empty)).2)
  | x :: r, 0, _ => ⟨rfl, rfl⟩
  | x :: r, i + 1, h => by
    have ih := acells_at r i (by simpa using h)
    rw [show (i + 1) * 2 = i * 2 + 1 + 1 by omega, acells]
    simpa using ih
theorem acells_one : ∀ (xs : List (Int × ByteArray)), ∀ u ∈ acells xs, u.oneCell' = true
  | x :: r, u, h => by
    rw [acells] at h
    rcases List.mem_cons.1 h with rfl | h
    · rfl
    · rcases List.mem_cons.1 h with rfl | h
      · rfl
      · exact acells_one r u h

/-- A row of attributes that the call owns. -/
def OwnA (w : World) (base : Nat) (v : Value) (xs : List (Int × ByteArray)) : Prop := w.ownsRow base 118 2 v xs.length (acells xs)
theorem OwnA.lit (w : World) (base : Nat) (hb : base ≤ w.heap.size) : OwnA (w.alloc (.cells #[] 118)) base (.slice (some ⟨w.heap.size, 0, none⟩) 0 0) [] :=
  ⟨rfl, .inr ⟨w.heap.size, 0, #[], rfl, hb, heap_alloc_new w _, Nat.le_refl _, by decide, rfl, rfl⟩⟩
theorem OwnA.cell {w : World} {base g n c : Nat} {xs : List (Int × ByteArray)} (h : OwnA w base (.slice (some ⟨g, 0, none⟩) n c) xs) (i : Nat) (hi : i < xs.length) :
    w.cell? ⟨g, i * 2, none⟩ = some (.int .i64 (xs.getD i (0, ByteArray.empty)).1) ∧ w.cell? ⟨g, i * 2 + 1, none⟩ = some (.string (xs.getD i (0, ByteArray.empty)).2) := by
  obtain ⟨h1, h2⟩ := acells_at xs i hi
  have c1 := h.cells (g := g) rfl _ _ h1
  have c2 := h.cells (g := g) rfl _ _ h2
  rw [add_none, Nat.zero_add] at c1 c2
  exact ⟨c1, c2⟩
theorem Ats.src {w : World} {ad : Addr} {n cap : Nat} {xs : List (Int × ByteArray)} (h : Ats w (some ad) n cap xs) : ∀ j u, (acells xs)[j]? = some u → w.cell? (ad.add j) = some u := by
  intro j u hj
  have hl := h.hl
  have hjl : j < xs.length * 2 := by
    rcases Nat.lt_or_ge j (xs.length * 2) with h' | h'
    · exact h'
    · rw [List.getElem?_eq_none (by rw [acells_len]; exact h')] at hj; cases hj
  obtain ⟨b, off, he, hc⟩ := h.hrd (by omega)
  cases he
  obtain ⟨k1, k2⟩ := hc (j / 2) (by omega)
  obtain ⟨a1, a2⟩ := acells_at xs (j / 2) (by omega)
  rw [add_none]
  rcases Nat.mod_two_eq_zero_or_one j with hm | hm
  · have e : j / 2 * 2 = j := by omega
    rw [e] at a1 k1
    rw [a1] at hj
    rw [k1]
    exact hj
  · have e : j / 2 * 2 + 1 = j := by omega
    have e2 : off + j / 2 * 2 + 1 = off + j := by omega
    rw [e] at a2
    rw [e2] at k2
    rw [a2] at hj
    rw [k2]
    exact hj

theorem Tryz.infoA : (Tryz.prog.info? 118).map (fun i => (i.zero, i.size, i.bytes)) = some (some (.agg #[.int .i64 0, .string ⟨#[]⟩]), 2, 24) := by kernel_rfl

/-- A lent row: the attributes, the mark behind them. -/
structure LentA (w : World) (base g n c : Nat) (xs : List (Int × ByteArray)) : Prop where
  hb : base ≤ g
  hn : xs.length = n
  hc : n + 1 ≤ c
  hm : c ≤ maxLen
  hz : ∀ x ∈ xs, x.2.size ≤ 1048576
  cells : ∀ i, i < n → w.cell? ⟨g, i * 2, none⟩ = some (.int .i64 (xs.getD i (0, ByteArray.empty)).1) ∧ w.cell? ⟨g, i * 2 + 1, none⟩ = some (.string (xs.getD i (0, ByteArray.empty)).2)
  mark : w.cell? ⟨g, n * 2, none⟩ = some (.int .i64 77)
  markV : w.cell? ⟨g, n * 2 + 1, none⟩ = some (.string ByteArray.empty)

theorem LentA.below {w w' : World} {base g n c : Nat} {xs : List (Int × ByteArray)} (h : LentA w base g n c xs) (hb : Below w.heap.size w w') : LentA w' base g n c xs := by
  have k : ∀ {p : Addr} {v : Value}, w.cell? p = some v → w'.cell? p = some v := fun {p v} e => (hb.cell (lt_of_cell e)).trans e
  exact ⟨h.hb, h.hn, h.hc, h.hm, h.hz, fun i hi => ⟨k (h.cells i hi).1, k (h.cells i hi).2⟩, k h.mark, k h.markV⟩
theorem LentA.ats {w : World} {base g n c : Nat} {xs : List (Int × ByteArray)} (h : LentA w base g n c xs) : Ats w (some ⟨g, 0, none⟩) n c xs := by
  have hc := h.hc
  refine ⟨h.hn, by omega, h.hm, fun x hx => by have := h.hz x hx; omega, fun _ => ⟨g, 0, rfl, fun i hi => ?_⟩⟩
  rw [Nat.zero_add]
  exact h.cells i hi
end Go.Proofs.YtcbcdfdicefkoaaGreatDoor

namespace Go.Proofs.YtcbcdfdicefkoaaGreatDoor
open Go.RowKit Go.IntWalk Go.Shelf

theorem OwnA.alloc {w : World} {base : Nat} {v : Value} {xs : List (Int × ByteArray)} (h : OwnA w base v xs) (o : Obj) : OwnA (w.alloc o) base v xs := World.ownsRow.alloc h o
end Go.Proofs.YtcbcdfdicefkoaaGreatDoor

namespace Go.Proofs.YtcbcdfdicefkoaaGreatDoor
open Go.RowKit Go.IntWalk Go.Shelf

theorem run_appA (w : World) (ty : TypeId) (base : Nat) (v : Value) (xs : List (Int × ByteArray)) (hown : OwnA w base v xs) (ad : Addr) (c : Nat) (t : Int) (s : ByteArray) (hsrc : Ats w (some ad) 1 c [(t, s)]) (k : Nat) (hk : xs.length + 1 = k) (hb : k ≤ 2097152) (hbase : base ≤ w.heap.size) :
    ∃ g c' w', (Builtin.append_ #[57, 57] ty #[v, .slice (some ad) 1 c]).run Tryz.prog w = .ok (.slice (some ⟨g, 0, none⟩) k c') w' ∧ OwnA w' base (.slice (some ⟨g, 0, none⟩) k c') (xs ++ [(t, s)]) ∧
      base ≤ g ∧ c' ≤ maxLen ∧ k ≤ c' ∧ w.grownBy w' v.ownBlock ∧ (v.ownBlock = some g ∨ g = w.heap.size) := by
  subst hk
  obtain ⟨i0, hi, hz0, hz1, hz2⟩ := info_parts Tryz.infoA
  have hly : (xs ++ [(t, s)]).length = xs.length + 1 := by rw [List.length_append]; rfl
  obtain ⟨v', w', h0, h1, h2, h3, h4⟩ := run_append_own_at (w := w) base 57 ty 118 i0 _ 2 24 Tryz.underlying57 hi hz0 hz1 hz2 rfl (by decide) v _ _ hown ad 1 c (acells [(t, s)]) rfl hsrc.src (acells_one _) (by unfold maxLen; omega) (by omega) hbase
  have h1' := h1
  obtain ⟨_, ⟨h5, h6⟩ | ⟨g, cap, cur, hv, hb', _, hn, hmx, _⟩⟩ := h1'
  · exact absurd (h3.1 h5).2 (by omega)
  · subst hv
    refine ⟨g, cap, w', h0, ?_, hb', hmx, hn, h2, ?_⟩
    · unfold OwnA
      rw [hly, acells_app]
      exact h1
    · rcases h4 with h4 | h4
      · exact .inl h4.symm
      · exact .inr (by simpa [Value.ownBlock] using h4)
theorem OwnA.nil (w : World) (base : Nat) : OwnA w base (.slice none 0 0) [] := World.ownsRow_nil _ _ _ _
theorem OwnA.ats {w : World} {base : Nat} {a : Option Addr} {n c : Nat} {xs : List (Int × ByteArray)} (h : OwnA w base (.slice a n c) xs) (hz : ∀ x ∈ xs, x.2.size ≤ 1048576) : Ats w a n c xs := by
  have h' := h
  obtain ⟨h1, ⟨h2, h3⟩ | ⟨g, cap, cur, h2, h3, h4, h5, h6, h7⟩⟩ := h'
  · cases h2
    have hx : xs = [] := by
      have := acells_len xs
      rw [h3] at this
      exact List.eq_nil_of_length_eq_zero (by simp at this; omega)
    subst hx
    exact ⟨rfl, Nat.le_refl _, by decide, by simp, fun h => absurd h (by omega)⟩
  · have e := Value.slice.inj h2
    obtain ⟨rfl, rfl, rfl⟩ := e
    refine ⟨rfl, h5, h6, fun x hx => by have := hz x hx; omega, fun _ => ⟨g, 0, rfl, fun i hi => ?_⟩⟩
    rw [Nat.zero_add]
    exact h.cell i hi
theorem OwnA.rebase {w : World} {base base' : Nat} {v : Value} {xs : List (Int × ByteArray)} (h : OwnA w base v xs) (hb : base' ≤ base) : OwnA w base' v xs := by
  obtain ⟨hl, h⟩ := h
  refine ⟨hl, ?_⟩
  rcases h with h | ⟨g, cap, cur, rfl, hbg, r⟩
  · exact .inl h
  · exact .inr ⟨g, cap, cur, rfl, by omega, r⟩
theorem OwnA.below {w w' : World} {base : Nat} {v : Value} {xs : List (Int × ByteArray)} (h : OwnA w base v xs) (hb : Below w.heap.size w w') : OwnA w' base v xs := row_below h hb

theorem cont_len (X : List Int) : (contS X).length ≤ X.length := by
  unfold contS
  rw [List.length_drop, List.length_take]
  omega
theorem ins_len {X : List Int} {t : Int} {l : List (Int × List Int)} (h : insS X t = some l) : ∀ e ∈ l, e.2.length ≤ X.length := by
  unfold insS at h
  split at h
  · cases h
    intro e he
    obtain ⟨p, _, rfl⟩ := List.mem_map.1 he
    have h1 := cont_len ((oneS X).2.1.drop p)
    have h2 := one_len X
    rw [List.length_drop] at h1
    unfold elS
    simp only []
    omega
  · cases h
theorem str_len (xs : List Int) : (strOfNums xs).size = xs.length := strOfNums_size xs
theorem gsE_len {X : List Int} {a : Int × ByteArray} (h : gsE X = some a) : a.2.size ≤ X.length := by
  unfold gsE at h
  split at h
  · rename_i x y hq
    split at h
    · cases h
      have := ins_len hq y (by simp)
      simp only [str_len]
      exact this
    · cases h
  · cases h
theorem gsL_len : ∀ {l : List (Int × List Int)} {r : List (Int × ByteArray)} {N : Nat}, (∀ e ∈ l, e.2.length ≤ N) → gsL l = some r → r.length = l.length ∧ ∀ x ∈ r, x.2.size ≤ N
  | [], r, N, _, h => by cases h; exact ⟨rfl, by simp⟩
  | e :: l, r, N, hl, h => by
    simp only [gsL] at h
    cases hg : gsE e.2 with
    | none => rw [hg] at h; cases h
    | some a =>
      rw [hg] at h
      cases hr : gsL l with
      | none => rw [hr] at h; cases h
      | some R =>
        rw [hr] at h
        cases h
        obtain ⟨h1, h2⟩ := gsL_len (fun e' he' => hl e' (by simp [he'])) hr
        refine ⟨by simp [h1], fun x hx => ?_⟩
        rcases List.mem_cons.1 hx with rfl | hx
        · have := gsE_len hg; have := hl e (by simp); omega
        · exact h2 x hx
theorem gsN_len (xs : List Int) : ∀ x ∈ gsN xs, x.2.size ≤ xs.length := by
  intro x hx
  unfold gsN at hx
  cases hi : insS xs 48 with
  | none => rw [hi] at hx; simp [gsL] at hx
  | some l =>
    rw [hi] at hx
    simp only [Option.getD_some] at hx
    cases hg : gsL l with
    | none => rw [hg] at hx; simp at hx
    | some r => rw [hg] at hx; exact (gsL_len (ins_len hi) hg).2 x (by simpa using hx)
theorem gsL_snoc : ∀ (es : List (Int × List Int)) (k : Nat) (G : List (Int × ByteArray)) (a : Int × ByteArray), k < es.length → gsL (es.take k) = some G → gsE (es.getD k (0, [])).2 = some a → gsL (es.take (k + 1)) = some (G ++ [a])
  | [], k, _, _, h, _, _ => by simp at h
  | e :: es, 0, G, a, _, h1, h2 => by
    simp [gsL] at h1
    subst h1
    simp at h2
    simp [gsL, h2]
  | e :: es, k + 1, G, a, h, h1, h2 => by
    rw [List.take_succ_cons] at h1 ⊢
    simp only [gsL] at h1 ⊢
    cases hg : gsE e.2 with
    | none => rw [hg] at h1; cases h1
    | some x =>
      rw [hg] at h1
      simp only [] at h1 ⊢
      cases hr : gsL (es.take k) with
      | none => rw [hr] at h1; simp at h1
      | some R =>
        rw [hr] at h1
        simp at h1
        subst h1
        have ih := gsL_snoc es k R a (by simpa using h) hr (by simpa using h2)
        rw [ih]
        simp
theorem gsL_fail : ∀ (es : List (Int × List Int)) (k : Nat), k < es.length → gsE (es.getD k (0, [])).2 = none → gsL es = none
  | [], k, h, _ => by simp at h
  | e :: es, 0, _, h => by simp at h; simp [gsL, h]
  | e :: es, k + 1, h, h2 => by
    have ih := gsL_fail es k (by simpa using h) (by simpa using h2)
    simp only [gsL]
    cases gsE e.2 <;> simp [ih]
theorem dcA_len (X : List Int) : (dcA X).2.size ≤ X.length := by
  unfold dcA
  split
  · simp only [str_len]
    unfold dcV dcP
    have h1 := one_len ((oneS X).2.1.drop (findS (oneS X).2.1).2.2.1.toNat)
    have h2 := one_len X
    rw [List.length_drop] at h1
    omega
  · simp

end Go.Proofs.YtcbcdfdicefkoaaGreatDoor

namespace Go.Proofs.YtcbcdfdicefkoaaGreatDoor
open Go.RowKit Go.IntWalk Go.Shelf

theorem putB_one (tag : Int) (xs : List Int) (h1 : isTagB tag = true) (h2 : xs.length ≤ 16777215) : putB tag [xs] = [tag] ++ lenB xs.length ++ xs := by
  unfold putB putS
  rw [if_neg (by simp [h1])]
  simp only [List.flatten_cons, List.flatten_nil, List.append_nil]
  rw [if_neg (by omega)]
  simp
theorem putB_two (tag : Int) (xs ys : List Int) : putB tag [xs, ys] = putB tag [xs ++ ys] := by unfold putB putS; simp

set_option maxRecDepth 100000 in
theorem rnput_any (tag : Int) (ht : isTagB tag = true) (a : Option Addr) (m c : Nat) (xs : List Int) (w : World) (hs : Src w a m c xs) (hm : m ≤ 16777215) :
    Calls Tryz.prog 110 #[.int .i64 tag, .slice a m c] w fun e w' => ∃ g k c', e = .returned (.slice (some ⟨g, 0, none⟩) k c') ∧ OwnB w' w.heap.size (.slice (some ⟨g, 0, none⟩) k c') (putB tag [xs]) ∧ Below w.heap.size w w' := by
  have hb := tag_bd ht
  have e := putB_one tag xs ht (by rw [hs.hlen]; exact hm)
  rw [hs.hlen] at e
  have hC := hide (bytes_any tag a m c xs w hs hb.1 hb.2 (by omega))
  rw [e]
  clear e
  generalize [tag] ++ lenB m ++ xs = P at hC ⊢
  generalize 1 + (lenB m).length + m = k at hC
  go_enter Tryz.func110, Tryz.ntmps110
  go_wp2_with fail
  refine hC.out.mono ?_
  rintro e w1 ⟨g, c', rfl, O1, B1⟩
  go_wp2
  go_ret
  exact ⟨g, k, c', rfl, O1, B1⟩

end Go.Proofs.YtcbcdfdicefkoaaGreatDoor
