/-
  The document's Fold: a text as it is compared.
  The document's Alike, Begins and Same of rows of attributes.
  Lent attributes: a row of attributes of the call's own, with a mark behind it.
-/
import Derived.Test.YtklchpdpooikdaaGreatDoorXNmEncNToTxR1
import Derived.Test.YtklchpdpooikdaaGreatDoorXTxW1ToTxF1
import Derived.Test.YtklchpdpooikdaaGreatDoorXOEncToTxL2
import Derived.Test.YtklchpdpooikdaaGreatDoorXTxL0ToPut
import Derived.Test.YtklchpdpooikdaaGreatDoorXNmRowToNmThere
import Derived.Deep.QuietTactic
import Derived.BigQuiet
import Derived.Maps.AppendAt
import Derived.Laws.AppendOwnNone
namespace Go.Proofs.YtklchpdpooikdaaGreatDoor
open Go.RowKit Go.IntWalk
attribute [local go_sem ↓] appOf_of

set_option maxRecDepth 100000 in
set_option maxHeartbeats 4000000 in
theorem refFold_any (s : ByteArray) (hs : s.size ≤ 1048576) (w : World) :
    Calls Tryz.prog 95 #[.string s] w fun e w' => e = .returned (.string (foldS s)) ∧ Below w.heap.size w w' := by
  have hW := hide (refWords_any s hs w)
  have hps := hide (wordsL_pos s.data.toList)
  have hsp : Hid (spanW (wordsL s.data.toList) ≤ s.size + 1) := by unfold Hid; have := spanW_le s.data.toList []; rw [size_len] at this; simpa [wordsL] using this
  have hfo : Hid (foldL s.data.toList = lay [] (wordsL s.data.toList)) := rfl
  have hcnt : Hid ((wordsL s.data.toList).length ≤ s.size + 1) := Nat.le_trans (words_count _) hsp.out
  have hfin : Hid (foldS s = ⟨(foldL s.data.toList).toArray⟩) := rfl
  generalize foldS s = FS at hfin ⊢
  generalize foldL s.data.toList = FL at hfo hfin
  generalize wordsL s.data.toList = W at hsp hfo hcnt hW hps
  go_enter Tryz.func95, Tryz.ntmps95
  go_wp2_with (go_at_call 133; refine hW.out.mono ?_; rintro e w1 ⟨ao, c, rfl, o1, B1⟩)
  have HO := hide (And.intro o1 B1)
  clear hW o1 B1
  go_loopw [4, 5] (fun b i wr => ∃ (acc : List UInt8) (aB : Option Addr) (cB n : Nat), b = .slice aB acc.length cB ∧ i = .int .i64 n ∧ n ≤ W.length ∧ Hid (OwnB wr w1.heap.size (.slice aB acc.length cB) (nums acc) ∧ Below w1.heap.size w1 wr) ∧ Hid (FL = lay acc (W.drop n)) ∧ Hid (acc.length + spanW (W.drop n) ≤ s.size + 1) ∧ Hid (n = 0 ↔ acc.length = 0)) (fun _ i _ => W.length - (intOf i).toNat)
  case atStart => exact ⟨[], none, 0, 0, rfl, rfl, Nat.zero_le _, ⟨OwnB.nil _ _, Below.refl _ _⟩, hfo, by simpa using hsp, by simp [Hid]⟩
  case round =>
    obtain ⟨acc, aB, cB, n, rfl, rfl, hn, HB, HL, HS, HZ⟩ := hrel
    by_cases hlt : n < W.length
    · have hltI : (n : Int) < (W.length : Int) := by omega
      obtain ⟨u, hu⟩ : ∃ u, W[n]'hlt = u := ⟨_, rfl⟩
      have hdr : W.drop n = u :: W.drop (n + 1) := by rw [List.drop_eq_getElem_cons hlt, hu]
      obtain ⟨g, hg⟩ : ∃ g, ao = some ⟨g, 0, none⟩ := by
        rcases HO.out.1.split with ⟨_, h⟩ | ⟨g, cap, h, _⟩
        · have h2 : (texts W).length = 0 := by rw [h]; rfl
          unfold texts at h2
          rw [List.length_map] at h2
          omega
        · exact ⟨g, (Value.slice.inj h).1⟩
      subst hg
      have hcl : w1.cell? ⟨g, n, none⟩ = some (.string ⟨u.toArray⟩) := by
        have h := HO.out.1.cells n ⟨u.toArray⟩ (by simp [texts, hlt, hu])
        rwa [Nat.zero_add] at h
      have hgl : Hid (g < w1.heap.size) := lt_of_cell hcl
      have HC : Hid (∀ X, Below w1.heap.size w1 X → X.cell? ⟨g, n, none⟩ = some (.string ⟨u.toArray⟩)) := fun X hX => by
        rw [← hcl]
        exact (bcell hX).1 g n hgl.out
      rw [hdr] at HL HS
      have hgp : Hid (gap acc = if acc.length = 0 then acc else acc ++ [32]) := rfl
      have HL2 : Hid (FL = lay (gap acc ++ u.map smallB) (W.drop (n + 1))) := HL
      have HS2 : Hid (acc.length + (u.length + 1 + spanW (W.drop (n + 1))) ≤ s.size + 1) := HS
      have hus : Hid ((⟨u.toArray⟩ : ByteArray).size = u.length) := by unfold Hid; rfl
      have hub : Hid (∀ (k : Nat) (h : k < u.length) (h2 : k < (⟨u.toArray⟩ : ByteArray).size), ((⟨u.toArray⟩ : ByteArray)[k]'h2) = u[k]'h) := by intro k h h2; rfl
      have hcr := HC.out _ HB.out.2
      have hup : Hid (0 < u.length) := hps.out u (by rw [← hu]; exact List.getElem_mem hlt)
      have huL : u.length ≤ 1048577 := by have := HS2.out; omega
      have hWL : W.length ≤ 1048577 := by have := hcnt.out; omega
      clear HL HS hcl hdr hu
      by_cases h0 : n = 0
      · have ha := HZ.out.1 h0
        rw [if_pos ha] at hgp
        have hG := HB
        have hgl2 : Hid ((gap acc).length ≤ acc.length + 1) := by unfold Hid; rw [hgp.out]; omega
        have nI : ¬ (0 : Int) < (n : Int) := by omega
        clear HB ha h0
        go_wp2
        go_loopw [4, 6] (fun b kk wq => ∃ (cur : List UInt8) (aP : Option Addr) (cP k : Nat), b = .slice aP cur.length cP ∧ kk = .int .i64 k ∧ k ≤ u.length ∧ Hid (cur = gap acc ++ (u.take k).map smallB) ∧ Hid (OwnB wq w1.heap.size (.slice aP cur.length cP) (nums cur) ∧ Below w1.heap.size w1 wq)) (fun _ kk _ => u.length - (intOf kk).toNat)
        case atStart => exact ⟨acc, _, _, 0, by simp, rfl, Nat.zero_le _, by unfold Hid; rw [hgp.out]; simp, hG⟩
        case round =>
          obtain ⟨cur, aP, cP, k, rfl, rfl, hk, HE, HI⟩ := hrel
          have hcq := HC.out _ HI.out.2
          by_cases hku : k < u.length
          · have hsz : k < (⟨u.toArray⟩ : ByteArray).size := by rw [hus.out]; exact hku
            have hbyte := hub.out k hku hsz
            have hkI : (k : Int) < (u.length : Int) := by omega
            have hsm := small_num (u[k]'hku)
            have hcl2 : Hid (cur.length + 1 ≤ 140737488355328) := by unfold Hid; rw [HE.out]; have h1 := hgl2.out; have h2 := HS2.out; simp; omega
            obtain ⟨g4, c4, w4, hrun, ho4, hg4⟩ := app_byte HI.out.1 (smallB (u[k]'hku)) hcl2.out HI.out.2.size
            have HE4 : Hid (cur ++ [smallB (u[k]'hku)] = gap acc ++ (u.take (k + 1)).map smallB) := by unfold Hid; rw [take_nextI u k hku, HE.out, List.append_assoc]
            have H4 : Hid (OwnB w4 w1.heap.size (.slice (some ⟨g4, 0, none⟩) (cur ++ [smallB (u[k]'hku)]).length c4) (nums (cur ++ [smallB (u[k]'hku)])) ∧ Below w1.heap.size w1 w4) := by
              unfold Hid
              have e2 : (cur ++ [smallB (u[k]'hku)]).length = cur.length + 1 := by simp
              rw [e2]
              exact ⟨ho4, (HI.out.2.alloc HI.out.2.size _).grown hg4 (by have := HI.out.2.size; simp; omega) (fun j hj => (HI.out.1.lt j hj).1)⟩
            rw [hsm] at hrun
            have hX := (u[k]'hku).toNat_lt
            generalize smallB (u[k]'hku) = sb at HE4 H4
            generalize u[k]'hku = ub at hbyte hrun hX
            clear hsm ho4 hg4 HI hG HE hcl2
            by_cases hgr : (65 : Int) ≤ (ub.toNat : Int) ∧ (ub.toNat : Int) ≤ 90
            · rw [if_pos hgr] at hrun
              have q1 := hgr.1
              have q2 := hgr.2
              clear hgr
              go_wp2
              go_roundw
              case rel => exact ⟨cur ++ [sb], _, _, k + 1, by simp, by simp, by omega, HE4, H4⟩
              case measure => simp [intOf]; omega
            · rw [if_neg hgr] at hrun
              by_cases q1 : (65 : Int) ≤ (ub.toNat : Int)
              · have q2 : ¬ (ub.toNat : Int) ≤ 90 := fun h => hgr ⟨q1, h⟩
                clear hgr
                go_wp2
                go_roundw
                case rel => exact ⟨cur ++ [sb], _, _, k + 1, by simp, by simp, by omega, HE4, H4⟩
                case measure => simp [intOf]; omega
              · clear hgr
                go_wp2
                go_roundw
                case rel => exact ⟨cur ++ [sb], _, _, k + 1, by simp, by simp, by omega, HE4, H4⟩
                case measure => simp [intOf]; omega
          · obtain rfl : k = u.length := by omega
            have hkI : ¬ (u.length : Int) < (u.length : Int) := by omega
            have HE2 : Hid (cur = gap acc ++ u.map smallB) := by unfold Hid; rw [HE.out, List.take_length]
            have HL3 : Hid (FL = lay cur (W.drop (n + 1))) := by unfold Hid; rw [HE2.out]; exact HL2.out
            have HS3 : Hid (cur.length + spanW (W.drop (n + 1)) ≤ s.size + 1) := by unfold Hid; rw [HE2.out]; have h1 := hgl2.out; have h2 := HS2.out; simp; omega
            have HZ3 : Hid (n + 1 = 0 ↔ cur.length = 0) := by unfold Hid; rw [HE2.out]; have h1 := hup.out; simp; intro _ h; rw [h] at h1; simp at h1
            clear hG HE HE2 HL2 HS2
            go_wp2
            go_roundw
            case rel => exact ⟨cur, _, _, n + 1, rfl, by simp, by omega, HI, HL3, HS3, HZ3⟩
            case measure => simp [intOf]; omega
      · have ha : ¬ acc.length = 0 := fun h => h0 (HZ.out.2 h)
        rw [if_neg ha] at hgp
        obtain ⟨g5, c5, w5, hrun, ho5, hg5⟩ := app_byte HB.out.1 32 (by have := HS2.out; omega) HB.out.2.size
        have hG : Hid (OwnB w5 w1.heap.size (.slice (some ⟨g5, 0, none⟩) (acc ++ [32]).length c5) (nums (acc ++ [32])) ∧ Below w1.heap.size w1 w5) := by
          have e : (acc ++ [32]).length = acc.length + 1 := by simp
          unfold Hid
          rw [e]
          exact ⟨ho5, (HB.out.2.alloc HB.out.2.size _).grown hg5 (by have := HB.out.2.size; simp; omega) (fun j hj => (HB.out.1.lt j hj).1)⟩
        have hgl2 : Hid ((gap acc).length ≤ acc.length + 1) := by unfold Hid; rw [hgp.out]; simp
        have e32 : ((32 : UInt8).toNat : Int) = 32 := rfl
        rw [e32] at hrun
        have nI : (0 : Int) < (n : Int) := by omega
        clear HB ho5 hg5 e32 ha h0
        go_wp2
        clear hrun
        go_loopw [4, 6] (fun b kk wq => ∃ (cur : List UInt8) (aP : Option Addr) (cP k : Nat), b = .slice aP cur.length cP ∧ kk = .int .i64 k ∧ k ≤ u.length ∧ Hid (cur = gap acc ++ (u.take k).map smallB) ∧ Hid (OwnB wq w1.heap.size (.slice aP cur.length cP) (nums cur) ∧ Below w1.heap.size w1 wq)) (fun _ kk _ => u.length - (intOf kk).toNat)
        case atStart => exact ⟨acc ++ [32], _, _, 0, by simp, rfl, Nat.zero_le _, by unfold Hid; rw [hgp.out]; simp, hG⟩
        case round =>
          obtain ⟨cur, aP, cP, k, rfl, rfl, hk, HE, HI⟩ := hrel
          have hcq := HC.out _ HI.out.2
          by_cases hku : k < u.length
          · have hsz : k < (⟨u.toArray⟩ : ByteArray).size := by rw [hus.out]; exact hku
            have hbyte := hub.out k hku hsz
            have hkI : (k : Int) < (u.length : Int) := by omega
            have hsm := small_num (u[k]'hku)
            have hcl2 : Hid (cur.length + 1 ≤ 140737488355328) := by unfold Hid; rw [HE.out]; have h1 := hgl2.out; have h2 := HS2.out; simp; omega
            obtain ⟨g4, c4, w4, hrun, ho4, hg4⟩ := app_byte HI.out.1 (smallB (u[k]'hku)) hcl2.out HI.out.2.size
            have HE4 : Hid (cur ++ [smallB (u[k]'hku)] = gap acc ++ (u.take (k + 1)).map smallB) := by unfold Hid; rw [take_nextI u k hku, HE.out, List.append_assoc]
            have H4 : Hid (OwnB w4 w1.heap.size (.slice (some ⟨g4, 0, none⟩) (cur ++ [smallB (u[k]'hku)]).length c4) (nums (cur ++ [smallB (u[k]'hku)])) ∧ Below w1.heap.size w1 w4) := by
              unfold Hid
              have e2 : (cur ++ [smallB (u[k]'hku)]).length = cur.length + 1 := by simp
              rw [e2]
              exact ⟨ho4, (HI.out.2.alloc HI.out.2.size _).grown hg4 (by have := HI.out.2.size; simp; omega) (fun j hj => (HI.out.1.lt j hj).1)⟩
            rw [hsm] at hrun
            have hX := (u[k]'hku).toNat_lt
            generalize smallB (u[k]'hku) = sb at HE4 H4
            generalize u[k]'hku = ub at hbyte hrun hX
            clear hsm ho4 hg4 HI hG HE hcl2
            by_cases hgr : (65 : Int) ≤ (ub.toNat : Int) ∧ (ub.toNat : Int) ≤ 90
            · rw [if_pos hgr] at hrun
              have q1 := hgr.1
              have q2 := hgr.2
              clear hgr
              go_wp2
              go_roundw
              case rel => exact ⟨cur ++ [sb], _, _, k + 1, by simp, by simp, by omega, HE4, H4⟩
              case measure => simp [intOf]; omega
            · rw [if_neg hgr] at hrun
              by_cases q1 : (65 : Int) ≤ (ub.toNat : Int)
              · have q2 : ¬ (ub.toNat : Int) ≤ 90 := fun h => hgr ⟨q1, h⟩
                clear hgr
                go_wp2
                go_roundw
                case rel => exact ⟨cur ++ [sb], _, _, k + 1, by simp, by simp, by omega, HE4, H4⟩
                case measure => simp [intOf]; omega
              · clear hgr
                go_wp2
                go_roundw
                case rel => exact ⟨cur ++ [sb], _, _, k + 1, by simp, by simp, by omega, HE4, H4⟩
                case measure => simp [intOf]; omega
          · obtain rfl : k = u.length := by omega
            have hkI : ¬ (u.length : Int) < (u.length : Int) := by omega
            have HE2 : Hid (cur = gap acc ++ u.map smallB) := by unfold Hid; rw [HE.out, List.take_length]
            have HL3 : Hid (FL = lay cur (W.drop (n + 1))) := by unfold Hid; rw [HE2.out]; exact HL2.out
            have HS3 : Hid (cur.length + spanW (W.drop (n + 1)) ≤ s.size + 1) := by unfold Hid; rw [HE2.out]; have h1 := hgl2.out; have h2 := HS2.out; simp; omega
            have HZ3 : Hid (n + 1 = 0 ↔ cur.length = 0) := by unfold Hid; rw [HE2.out]; have h1 := hup.out; simp; intro _ h; rw [h] at h1; simp at h1
            clear hG HE HE2 HL2 HS2
            go_wp2
            go_roundw
            case rel => exact ⟨cur, _, _, n + 1, rfl, by simp, by omega, HI, HL3, HS3, HZ3⟩
            case measure => simp [intOf]; omega
    · obtain rfl : n = W.length := by omega
      have hE : Hid (FL = acc) := by unfold Hid; rw [HL.out, List.drop_length]; rfl
      have ht := (HB.out.1.toSrc (nums_bytes acc)).text
      rw [nums_text] at ht
      have hnI : ¬ (W.length : Int) < (W.length : Int) := by omega
      go_wp2
      go_ret
      refine ⟨by rw [hfin.out, hE.out]; rfl, HO.out.2.trans (HB.out.2.mono HO.out.2.size)⟩

end Go.Proofs.YtklchpdpooikdaaGreatDoor

namespace Go.Proofs.YtklchpdpooikdaaGreatDoor
open Go.RowKit Go.IntWalk Go.Shelf

theorem bs_ne {a b : ByteArray} (h : a ≠ b) : (a.toList == b.toList) = false := by
  rw [beq_eq_false_iff_ne, ByteArray.toList_eq, ByteArray.toList_eq]
  intro e
  exact h (ByteArray.ext (Array.ext' e))

theorem at_all {A B : List (Int × ByteArray)} (hl : A.length = B.length) (h : ∀ j, j < A.length → A[j]? = B[j]?) : A = B := by
  apply List.ext_getElem? 
  intro j
  by_cases hj : j < A.length
  · exact h j hj
  · rw [List.getElem?_eq_none (by omega), List.getElem?_eq_none (by omega)]
theorem at_key {xs : List (Int × ByteArray)} {i : Nat} (h : i < xs.length) : xs[i]? = some (xs.getD i (0, ByteArray.empty)) := by
  simp [h, List.getD]

end Go.Proofs.YtklchpdpooikdaaGreatDoor

namespace Go.Proofs.YtklchpdpooikdaaGreatDoor
open Go.RowKit Go.IntWalk Go.Shelf

/-- The cells of a row of attributes. -/
def acells : List (Int × ByteArray) → List Value
  | [] => []
  | x :: r => .int .i64 x.1 :: .string x.2 :: acells r
theorem acells_len : ∀ xs, (acells xs).length = xs.length * 2
  | [] => rfl
  | x :: r => by rw [acells, List.length_cons, List.length_cons, acells_len r, List.length_cons]; omega
theorem acells_app : ∀ xs ys, acells (xs ++ ys) = acells xs ++ acells ys
  | [], _ => rfl
  | x :: r, ys => by rw [List.cons_append, acells, acells_app r ys]; rfl
theorem acells_at : ∀ (xs : List (Int × ByteArray)) (i : Nat), i < xs.length → (acells xs)[i * 2]? = some (.int .i64 (xs.getD i (0, ByteArray.empty)).1) ∧ (acells xs)[i * 2 + 1]? = some (.string (xs.getD i (0, ByteArray.empty)).2)
  | x :: r, 0, _ => ⟨rfl, rfl⟩
  | x :: r, i + 1, h => by
    have ih := acells_at r i (by simpa using h)
    rw [show (i + 1) * 2 = i * 2 + 1 + 1 by omega, acells]
    simpa using ih
theorem acells_one : ∀ (xs : List (Int × ByteArray)), ∀ u ∈ acells xs, u.oneCell' = true
  | x :: r, u, h => by
    rw [acells] at h
    rcases List.mem_cons.1 h with rfl | h
    · rfl
    · rcases List.mem_cons.1 h with rfl | h
      · rfl
      · exact acells_one r u h

/-- A row of attributes that the call owns. -/
def OwnA (w : World) (base : Nat) (v : Value) (xs : List (Int × ByteArray)) : Prop := w.ownsRow base 111 2 v xs.length (acells xs)
theorem OwnA.lit (w : World) (base : Nat) (hb : base ≤ w.heap.size) : OwnA (w.alloc (.cells #[] 111)) base (.slice (some ⟨w.heap.size, 0, none⟩) 0 0) [] :=
  ⟨rfl, .inr ⟨w.heap.size, 0, #[], rfl, hb, heap_alloc_new w _, Nat.le_refl _, by decide, rfl, rfl⟩⟩
theorem OwnA.cell {w : World} {base g n c : Nat} {xs : List (Int × ByteArray)} (h : OwnA w base (.slice (some ⟨g, 0, none⟩) n c) xs) (i : Nat) (hi : i < xs.length) :
    w.cell? ⟨g, i * 2, none⟩ = some (.int .i64 (xs.getD i (0, ByteArray.empty)).1) ∧ w.cell? ⟨g, i * 2 + 1, none⟩ = some (.string (xs.getD i (0, ByteArray.empty)).2) := by
  obtain ⟨h1, h2⟩ := acells_at xs i hi
  have c1 := h.cells (g := g) rfl _ _ h1
  have c2 := h.cells (g := g) rfl _ _ h2
  rw [add_none, Nat.zero_add] at c1 c2
  exact ⟨c1, c2⟩
theorem Ats.src {w : World} {ad : Addr} {n cap : Nat} {xs : List (Int × ByteArray)} (h : Ats w (some ad) n cap xs) : ∀ j u, (acells xs)[j]? = some u → w.cell? (ad.add j) = some u := by
  intro j u hj
  have hl := h.hl
  have hjl : j < xs.length * 2 := by
    rcases Nat.lt_or_ge j (xs.length * 2) with h' | h'
    · exact h'
    · rw [List.getElem?_eq_none (by rw [acells_len]; exact h')] at hj; cases hj
  obtain ⟨b, off, he, hc⟩ := h.hrd (by omega)
  cases he
  obtain ⟨k1, k2⟩ := hc (j / 2) (by omega)
  obtain ⟨a1, a2⟩ := acells_at xs (j / 2) (by omega)
  rw [add_none]
  rcases Nat.mod_two_eq_zero_or_one j with hm | hm
  · have e : j / 2 * 2 = j := by omega
    rw [e] at a1 k1
    rw [a1] at hj
    rw [k1]
    exact hj
  · have e : j / 2 * 2 + 1 = j := by omega
    have e2 : off + j / 2 * 2 + 1 = off + j := by omega
    rw [e] at a2
    rw [e2] at k2
    rw [a2] at hj
    rw [k2]
    exact hj

theorem Tryz.infoA : (Tryz.prog.info? 111).map (fun i => (i.zero, i.size, i.bytes)) = some (some (.agg #[.int .i64 0, .string ⟨#[]⟩]), 2, 24) := by kernel_rfl

/-- 'append(v, x...)' of attributes. -/
theorem wpList_appA {ops : Array Oper} {rest : List Oper} {o : Oper} {a : Act} {Q : Exit → Act → World → Prop} (w : World) (hgd : o.guard = none) (s x : Operand)
    (ho : o.op = .call { callee := .builtin .append, args := #[s, x], argTypes := #[61, 61] })
    (base : Nat) (v : Value) (xs : List (Int × ByteArray)) (hs : a.eval s = v) (hown : OwnA w base v xs) (hne : v ≠ .slice none 0 0)
    (ao : Option Addr) (m c : Nat) (ys : List (Int × ByteArray)) (hx : a.eval x = .slice ao m c) (hsrc : Ats w ao m c ys) (hnil : ao = none → m = 0 ∧ c = 0)
    (t : Nat) (ht : xs.length + m = t) (hb : t ≤ 2097152) (hbase : base ≤ w.heap.size)
    (h : ∀ g c' w', OwnA w' base (.slice (some ⟨g, 0, none⟩) t c') (xs ++ ys) → base ≤ g → t ≤ c' → c' ≤ maxLen → w.grownBy w' v.ownBlock → (v.ownBlock = some g ∨ g = w.heap.size) → wpList Tryz.prog ops Q rest (a.put o.dst (.slice (some ⟨g, 0, none⟩) t c')) w') :
    wpList Tryz.prog ops Q (o :: rest) a w := by
  subst ht
  have hl := hsrc.hl
  have hly : (xs ++ ys).length = xs.length + m := by rw [List.length_append, hl]
  have main : ∀ v' w', OwnA w' base v' (xs ++ ys) → w.grownBy w' v.ownBlock → (v' ≠ .slice none 0 0) → (v'.ownBlock = v.ownBlock ∨ v'.ownBlock = some w.heap.size) → wpList Tryz.prog ops Q rest (a.put o.dst v') w' := by
    intro v' w' h1 h2 h3 h4
    have h1' := h1
    obtain ⟨_, ⟨h5, _⟩ | ⟨g, cap, cur, hv, hb', _, hn, hmx, _⟩⟩ := h1'
    · exact absurd h5 h3
    · rw [hly] at hv hn
      subst hv
      refine h g cap w' h1 hb' hn hmx h2 ?_
      rcases h4 with h4 | h4
      · exact .inl h4.symm
      · exact .inr (by simpa [Value.ownBlock] using h4)
  obtain ⟨i0, hi, hz0, hz1, hz2⟩ := info_parts Tryz.infoA
  cases ao with
  | none =>
    obtain ⟨rfl, rfl⟩ := hnil rfl
    obtain rfl : ys = [] := List.eq_nil_of_length_eq_zero hl
    refine wpList_append_own_none hgd s x 61 ho base 111 i0 2 Tryz.underlying61 hi v _ _ hs hown hx ?_
    exact main v w (by simpa using hown) ⟨rfl, rfl, rfl, Nat.le_refl _, fun _ _ _ => rfl⟩ hne (.inl rfl)
  | some ad =>
    refine wpList_append_own_at (w := w) hgd s x 61 ho base 111 i0 _ 2 24 Tryz.underlying61 hi hz0 hz1 hz2 rfl (by decide) v _ _ hs hown ad m c (acells ys) hx (by rw [acells_len, hl]) hsrc.src (acells_one ys) (by unfold maxLen; omega) (by omega) hbase ?_
    intro v' w' h1 h2 h3 h4
    refine main v' w' ?_ h2 (fun hv => hne (h3.1 hv).1) h4
    unfold OwnA
    rw [hly, acells_app]
    exact h1

/-- A lent row: the attributes, the mark behind them. -/
structure LentA (w : World) (base g n c : Nat) (xs : List (Int × ByteArray)) : Prop where
  hb : base ≤ g
  hn : xs.length = n
  hc : n + 1 ≤ c
  hm : c ≤ maxLen
  hz : ∀ x ∈ xs, x.2.size ≤ 1048576
  cells : ∀ i, i < n → w.cell? ⟨g, i * 2, none⟩ = some (.int .i64 (xs.getD i (0, ByteArray.empty)).1) ∧ w.cell? ⟨g, i * 2 + 1, none⟩ = some (.string (xs.getD i (0, ByteArray.empty)).2)
  mark : w.cell? ⟨g, n * 2, none⟩ = some (.int .i64 77)
  markV : w.cell? ⟨g, n * 2 + 1, none⟩ = some (.string ByteArray.empty)

theorem LentA.below {w w' : World} {base g n c : Nat} {xs : List (Int × ByteArray)} (h : LentA w base g n c xs) (hb : Below w.heap.size w w') : LentA w' base g n c xs := by
  have k : ∀ {p : Addr} {v : Value}, w.cell? p = some v → w'.cell? p = some v := fun {p v} e => (hb.cell (lt_of_cell e)).trans e
  exact ⟨h.hb, h.hn, h.hc, h.hm, h.hz, fun i hi => ⟨k (h.cells i hi).1, k (h.cells i hi).2⟩, k h.mark, k h.markV⟩
theorem LentA.ats {w : World} {base g n c : Nat} {xs : List (Int × ByteArray)} (h : LentA w base g n c xs) : Ats w (some ⟨g, 0, none⟩) n c xs := by
  have hc := h.hc
  refine ⟨h.hn, by omega, h.hm, fun x hx => by have := h.hz x hx; omega, fun _ => ⟨g, 0, rfl, fun i hi => ?_⟩⟩
  rw [Nat.zero_add]
  exact h.cells i hi
theorem lent_of_own {w : World} {base g n c : Nat} {xs : List (Int × ByteArray)} (hz : ∀ x ∈ xs, x.2.size ≤ 1048576) (hn : xs.length = n) (hb : base ≤ g) (hc : n + 1 ≤ c) (hm : c ≤ maxLen) (h : OwnA w base (.slice (some ⟨g, 0, none⟩) (n + 1) c) (xs ++ [(77, ByteArray.empty)])) : LentA w base g n c xs := by
  have hl : (xs ++ [((77 : Int), ByteArray.empty)]).length = n + 1 := by rw [List.length_append, hn]; rfl
  have e : ∀ i, i < n → (xs ++ [((77 : Int), ByteArray.empty)]).getD i (0, ByteArray.empty) = xs.getD i (0, ByteArray.empty) := fun i hi => by
    simp only [List.getD]
    rw [List.getElem?_append_left (by omega)]
  have e2 : (xs ++ [((77 : Int), ByteArray.empty)]).getD n (0, ByteArray.empty) = (77, ByteArray.empty) := by
    simp only [List.getD]
    rw [List.getElem?_append_right (by omega), hn, Nat.sub_self]
    rfl
  refine ⟨hb, hn, hc, hm, hz, fun i hi => ?_, ?_, ?_⟩
  · have := h.cell i (by omega)
    rwa [e i hi] at this
  · have := (h.cell n (by omega)).1
    rwa [e2] at this
  · have := (h.cell n (by omega)).2
    rwa [e2] at this

end Go.Proofs.YtklchpdpooikdaaGreatDoor
