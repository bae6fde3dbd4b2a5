/-
  name.unmarked, name.typeOf, name.parsed.
  name.decoded: the attribute whose bytes an element has.
-/
import Derived.Deep.MidRow
import Derived.Test.YtgbbgfjamneioaaDoorXNmEncNToHoM
import Derived.Test.YtgbbgfjamneioaaDoorXNmPaMToNmRef
import Derived.Test.YtgbbgfjamneioaaDoorXNmLentToNmLaw
import Derived.Deep.RegionHeld3
import Derived.Laws.ResultCell
import Derived.Test.YtgbbgfjamneioaaDoorXOneToLent
import Derived.Test.YtgbbgfjamneioaaDoorXODec
namespace Go.Proofs.YtgbbgfjamneioaaDoor
open Go.RowKit Go.IntWalk Go.Shelf

theorem unm_len : ∀ l : List UInt8, (unmU l).length ≤ l.length
  | [] => Nat.le_refl _
  | [x] => Nat.le_refl _
  | x :: y :: r => by
    rw [unmU]
    split
    · have := unm_len r; simp only [List.length_cons]; omega
    · have := unm_len (y :: r); simp only [List.length_cons] at *; omega
theorem drop_one (l : List UInt8) (k : Nat) (h : k < l.length) : l.drop k = l.getD k 0 :: l.drop (k + 1) := by
  rw [List.drop_eq_getElem_cons h]
  simp [List.getD, List.getElem?_eq_getElem h]

set_option maxRecDepth 100000 in
set_option maxHeartbeats 2000000 in
theorem unmarked_any (s : ByteArray) (hs : s.size ≤ 1048576) (w : World) :
    Calls Tryd.prog 60 #[.string s] w fun e w' => e = .returned (.string ⟨(unmU s.data.toList).toArray⟩) ∧ Below w.heap.size w w' := by
  obtain ⟨i0, hi, hz0, hz1, hz2⟩ := info_parts Tryd.infoB
  obtain ⟨wm, hmk, hown, hgm⟩ := run_make_own (P := Tryd.prog) (w := w) w.heap.size 25 5 i0 (.int .u8 0) 1 Tryd.underlying25 hi hz0 hz1 .i64 .i64 s.size (by rw [hz2]; omega) (by unfold maxLen; omega) (Nat.le_refl _)
  clear hi hz0 hz1 hz2 i0
  have HO : Hid (OwnB wm w.heap.size (.slice (some ⟨w.heap.size, 0, none⟩) 0 s.size) (nums [])) := hown
  have HG := hide (below_of_grown hgm)
  have hsl : Hid (s.data.toList.length = s.size) := bs_len s
  clear hown hgm
  have hsI : (s.size : Int) ≤ 1048576 := by omega
  obtain ⟨U, hU⟩ : ∃ U, unmU s.data.toList = U := ⟨_, rfl⟩
  rw [hU]
  have HU := hide hU
  clear hU
  go_enter Tryd.func60, Tryd.ntmps60
  go_wp2
  go_loopw [3, 4] (fun v i wr => ∃ (k g m c : Nat) (M : List UInt8), v = .slice (some ⟨g, 0, none⟩) m c ∧ i = .int .i64 k ∧ k ≤ s.size ∧ m ≤ k ∧ Hid (OwnB wr w.heap.size (.slice (some ⟨g, 0, none⟩) m c) (nums M)) ∧ Hid (M ++ unmU (s.data.toList.drop k) = U) ∧ Below w.heap.size w wr) (fun _ i _ => s.size - (intOf i).toNat)
  case atStart => exact ⟨0, w.heap.size, 0, s.size, [], rfl, rfl, Nat.zero_le _, Nat.le_refl _, HO, by unfold Hid; simpa using HU.out, HG.out⟩
  case round =>
    obtain ⟨k, g, m, c, M0, rfl, rfl, hk, hm, hO, hE, hB⟩ := hrel
    have hBs := hB.size
    by_cases hlt : k < s.size
    · have ltI : (k : Int) < (s.size : Int) := by omega
      have hdr := drop_one s.data.toList k (by rw [hsl.out]; exact hlt)
      obtain ⟨x, hx⟩ : ∃ x, (s[k]'hlt) = x := ⟨_, rfl⟩
      have hxd : s.data.toList.getD k 0 = x := by rw [← get_bs s k hlt]; exact hx
      rw [hxd] at hdr
      have hxI : ((s[k]'hlt).toNat : Int) = (x.toNat : Int) := by rw [hx]
      have hx256 := x.toNat_lt
      have hlen := OwnB.eqlen hO.out
      obtain ⟨M, hM⟩ : ∃ M, nums M0 = M := ⟨_, rfl⟩
      rw [hM] at hO hlen
      have HM := hide hM
      have HLN := hide hlen
      by_cases hsp : x = 92 ∧ k + 1 < s.size
      · obtain ⟨hx92, hk1⟩ := hsp
        have c1 : ((x.toNat : Int) == 92) = true := by subst hx92; rfl
        have c2 : (k : Int) + 1 < (s.size : Int) := by omega
        have hdr2 := drop_one s.data.toList (k + 1) (by rw [hsl.out]; exact hk1)
        obtain ⟨z, hz⟩ : ∃ z, (s[k + 1]'hk1) = z := ⟨_, rfl⟩
        have hzd : s.data.toList.getD (k + 1) 0 = z := by rw [← get_bs s (k + 1) hk1]; exact hz
        rw [hzd] at hdr2
        have hzI : ((s[k + 1]'hk1).toNat : Int) = (z.toNat : Int) := by rw [hz]
        have hz256 := z.toNat_lt
        have hE2 : Hid ((M0 ++ [z]) ++ unmU (s.data.toList.drop (k + 2)) = U) := by
          unfold Hid
          have h := hE.out
          rw [hdr, hdr2, unmU, if_pos hx92] at h
          rw [← h]
          simp
        obtain ⟨y, hy⟩ : ∃ y : Int, (z.toNat : Int) = y := ⟨_, rfl⟩
        rw [hy] at hzI
        obtain ⟨y1, hy1⟩ : ∃ y : Int, (x.toNat : Int) = y := ⟨_, rfl⟩
        rw [hy1] at hxI c1
        have hy0 : 0 ≤ y ∧ y < 256 := by omega
        have HN : Hid (nums (M0 ++ [z]) = M ++ [y]) := by unfold Hid; rw [nums_app, HM.out, ← hy]; rfl
        clear hdr hdr2 hz hzd hy hx hxd hy1 hM hlen hx92
        go_wp2_with (at_builtin; refine wpList_appN _ rfl (.tmp 27) (.tmp 31) rfl w.heap.size (.slice (some ⟨g, 0, none⟩) m c) M rfl (hO.out.alloc _) (some ⟨wr.heap.size, 0, none⟩) 1 1 [y] rfl (Src.lit [y] _ 1 rfl rfl (by simp; exact hy0) (by decide)) (m + 1) (by rw [List.length_append, ← HLN.out]; rfl) (.inr (by simp)) (by omega) (by simp; omega) ?_; intro g4 c4 w4 ho4 hb4 hl4 hc4 hm4 hg4)
        have hB4 : Below w.heap.size w w4 := (hB.alloc (by omega) _).grown hg4 (by simp; omega) (by intro q hq; cases hq; exact (OwnB.lt hO.out g rfl).1)
        go_roundw
        case rel => exact ⟨k + 2, g4, m + 1, c4, M0 ++ [z], rfl, by go_num, by omega, by omega, by rw [HN.out]; exact ho4, hE2, hB4⟩
        case measure => simp [intOf]; omega
      · have hE2 : Hid ((M0 ++ [x]) ++ unmU (s.data.toList.drop (k + 1)) = U) := by
          unfold Hid
          have h := hE.out
          rw [hdr] at h
          by_cases hx92 : x = 92
          · have hk1 : s.size ≤ k + 1 := by
              rcases Nat.lt_or_ge (k + 1) s.size with h' | h'
              · exact absurd ⟨hx92, h'⟩ hsp
              · exact h'
            have e : s.data.toList.drop (k + 1) = [] := List.drop_eq_nil_of_le (by rw [hsl.out]; exact hk1)
            rw [e] at h ⊢
            rw [← h]
            simp [unmU]
          · rw [unm_plain x _ hx92] at h
            rw [← h]
            simp
        have hc : ((x.toNat : Int) == 92) = false ∨ (((x.toNat : Int) == 92) = true ∧ ¬ ((k : Int) + 1 < (s.size : Int))) := by
          by_cases hx92 : x = 92
          · right
            refine ⟨by subst hx92; rfl, fun h => hsp ⟨hx92, by omega⟩⟩
          · left
            refine beq_eq_false_iff_ne.2 (fun e => hx92 ?_)
            apply UInt8.toNat_inj.1
            show x.toNat = 92
            omega
        obtain ⟨y, hy⟩ : ∃ y : Int, (x.toNat : Int) = y := ⟨_, rfl⟩
        rw [hy] at hxI hc
        have hy0 : 0 ≤ y ∧ y < 256 := by omega
        have HN : Hid (nums (M0 ++ [x]) = M ++ [y]) := by unfold Hid; rw [nums_app, HM.out, ← hy]; rfl
        clear hdr hy hx hxd hM hlen hsp
        rcases hc with c1 | ⟨c1, c2⟩
        · go_wp2_with (at_builtin; refine wpList_appN _ rfl (.tmp 27) (.tmp 31) rfl w.heap.size (.slice (some ⟨g, 0, none⟩) m c) M rfl (hO.out.alloc _) (some ⟨wr.heap.size, 0, none⟩) 1 1 [y] rfl (Src.lit [y] _ 1 rfl rfl (by simp; exact hy0) (by decide)) (m + 1) (by rw [List.length_append, ← HLN.out]; rfl) (.inr (by simp)) (by omega) (by simp; omega) ?_; intro g4 c4 w4 ho4 hb4 hl4 hc4 hm4 hg4)
          have hB4 : Below w.heap.size w w4 := (hB.alloc (by omega) _).grown hg4 (by simp; omega) (by intro q hq; cases hq; exact (OwnB.lt hO.out g rfl).1)
          go_roundw
          case rel => exact ⟨k + 1, g4, m + 1, c4, M0 ++ [x], rfl, by go_num, by omega, by omega, by rw [HN.out]; exact ho4, hE2, hB4⟩
          case measure => simp [intOf]; omega
        · go_wp2_with (at_builtin; refine wpList_appN _ rfl (.tmp 27) (.tmp 31) rfl w.heap.size (.slice (some ⟨g, 0, none⟩) m c) M rfl (hO.out.alloc _) (some ⟨wr.heap.size, 0, none⟩) 1 1 [y] rfl (Src.lit [y] _ 1 rfl rfl (by simp; exact hy0) (by decide)) (m + 1) (by rw [List.length_append, ← HLN.out]; rfl) (.inr (by simp)) (by omega) (by simp; omega) ?_; intro g4 c4 w4 ho4 hb4 hl4 hc4 hm4 hg4)
          have hB4 : Below w.heap.size w w4 := (hB.alloc (by omega) _).grown hg4 (by simp; omega) (by intro q hq; cases hq; exact (OwnB.lt hO.out g rfl).1)
          go_roundw
          case rel => exact ⟨k + 1, g4, m + 1, c4, M0 ++ [x], rfl, by go_num, by omega, by omega, by rw [HN.out]; exact ho4, hE2, hB4⟩
          case measure => simp [intOf]; omega
    · obtain rfl : k = s.size := by omega
      have nI : ¬ ((s.size : Int) < (s.size : Int)) := by omega
      have hall : s.data.toList.drop s.size = [] := List.drop_eq_nil_of_le (by rw [hsl.out]; exact Nat.le_refl _)
      have hMU : M0 = U := by have h := hE.out; rw [hall] at h; simpa [unmU] using h
      subst hMU
      have ht := (OwnB.toSrc hO.out (nums_byte _)).text
      rw [nums_text] at ht
      clear hall
      go_wp2
      go_ret
      exact ⟨rfl, hB⟩

def ldT (t : TypeId) (v : Value) : Sem Value := Instr.loadAt t v
theorem ld_lab (v : Value) : Instr.loadAt 86 v = ldT 86 v := rfl
attribute [local go_sem ↓] ld_lab
def labV : List Value := [.string ⟨#[]⟩, .string ⟨#[]⟩, .string ⟨#[]⟩, .string ⟨#[67, 78]⟩, .string ⟨#[]⟩, .string ⟨#[83, 78]⟩, .string ⟨#[67]⟩, .string ⟨#[76]⟩, .string ⟨#[83, 84]⟩, .string ⟨#[]⟩, .string ⟨#[79]⟩, .string ⟨#[79, 85]⟩]
theorem labV_range {w : World} (h : TabN w) : w.rangeAt 0 0 labV := by
  intro j v hj
  have hjl : j < 12 := (List.getElem?_eq_some_iff.1 hj).1
  have h1 := h j hjl
  rw [Nat.zero_add, h1, ← hj]
  match j, hjl with
  | 0, _ | 1, _ | 2, _ | 3, _ | 4, _ | 5, _ | 6, _ | 7, _ | 8, _ | 9, _ | 10, _ | 11, _ => rfl
theorem lab_load {w : World} (h : TabN w) : (ldT 86 (.pointer (some ⟨0, 0, none⟩))).run Tryd.prog w = .ok (.agg #[.string ⟨#[]⟩, .string ⟨#[]⟩, .string ⟨#[]⟩, .string ⟨#[67, 78]⟩, .string ⟨#[]⟩, .string ⟨#[83, 78]⟩, .string ⟨#[67]⟩, .string ⟨#[76]⟩, .string ⟨#[83, 84]⟩, .string ⟨#[]⟩, .string ⟨#[79]⟩, .string ⟨#[79, 85]⟩]) w :=
  run_loadAt_mid w 0 0 86 labV _ (labV_range h) Tryd.underlying86 rfl (by kernel_rfl)

theorem bs_beq (L : List UInt8) (s : ByteArray) : ((⟨L.toArray⟩ : ByteArray).toList == s.toList) = decide (L = s.data.toList) := by
  rw [ByteArray.toList_eq, ByteArray.toList_eq]
  by_cases h : L = s.data.toList
  · subst h; simp
  · rw [decide_eq_false h]
    exact beq_eq_false_iff_ne.2 h

end Go.Proofs.YtgbbgfjamneioaaDoor

namespace Go.Proofs.YtgbbgfjamneioaaDoor
open Go.RowKit Go.IntWalk Go.Shelf

theorem Src.tailN {w : World} {ao : Option Addr} {n c : Nat} {xs : List Int} (hs : Src w ao n c xs) (h : Nat) (hh : h ≤ n) : Src w (cutA ao c h) (n - h) (c - h) (xs.drop h) := by
  have h1 := hs.cut h n hh (Nat.le_refl _)
  rwa [List.take_of_length_le (by rw [hs.hlen]; exact Nat.le_refl _)] at h1
theorem find_size (xs : List Int) (hb : ∀ x ∈ xs, 0 ≤ x ∧ x < 256) : ∃ h : Nat, (findS xs).2.2.1 = (h : Int) ∧ h ≤ xs.length := by
  rcases findS_cases xs hb with ⟨err, _, _, _, he⟩ | ⟨l, h, he, _, _, _, h4, _⟩
  · exact ⟨0, by rw [he]; rfl, Nat.zero_le _⟩
  · exact ⟨h, by rw [he], h4⟩

/-- What is read of an element's content. -/
def dcP (X : List Int) : List Int := (oneS X).2.1
def dcV (X : List Int) : List Int := (oneS ((dcP X).drop (findS (dcP X)).2.2.1.toNat)).2.1
def dcI (X : List Int) : List Int := (decS (contS (dcP X))).1
def dcA (X : List Int) : Int × ByteArray := if (dcI X).length = 4 then ((dcI X).getD 3 0, strOfNums (dcV X)) else (0, ByteArray.empty)
theorem one_byte (X : List Int) (h : Byt X) : Byt (oneS X).2.1 := by
  unfold oneS
  split
  · intro x hx; cases hx
  · split
    · intro x hx; cases hx
    · intro x hx
      exact h x (List.mem_of_mem_take (List.mem_of_mem_drop hx))
theorem one_len (X : List Int) : (oneS X).2.1.length ≤ X.length := by
  unfold oneS
  split
  · simp
  · split
    · simp
    · unfold contS
      rw [List.length_drop, List.length_take]
      omega
theorem cont_byteN (X : List Int) (h : Byt X) : Byt (contS X) := fun x hx => h x (List.mem_of_mem_take (List.mem_of_mem_drop hx))

theorem after2 {W : World} {g : Nat} {u0 u1 : Value} (hg : W.heap[g]? = some (.cells #[u0, u1] 52)) (x y : Value) :
    ((W.setCell ⟨g, 0, none⟩ x).setCell ⟨g, 1, none⟩ y).heap[g]? = some (.cells #[x, y] 52) := by
  have h1 := heap_setCell_same W g 0 _ _ x hg
  have h2 := heap_setCell_same _ g 1 _ _ y h1
  rw [h2]
  rfl
theorem two_cells {W : World} {g : Nat} {x y : Value} (h : W.heap[g]? = some (.cells #[x, y] 52)) : W.cell? ⟨g, 0, none⟩ = some x ∧ W.cell? ⟨g, 1, none⟩ = some y := by
  refine ⟨?_, ?_⟩ <;> simp [World.cell?, h]
set_option maxRecDepth 100000 in
set_option maxHeartbeats 2000000 in
theorem decoded_any (tag : Int) (ao : Option Addr) (n cap : Nat) (xs : List Int) (w : World) (hs : Src w ao n cap xs) (hN : n ≤ 1048576) :
    Calls Tryd.prog 42 #[.agg #[.int .i64 tag, .slice ao n cap]] w fun e w' => e = .returned (.agg #[.int .i64 (dcA xs).1, .string (dcA xs).2]) ∧ Below w.heap.size w w' := by
  have BX : Below w.heap.size w ((w.alloc (.cells #[.int .i64 tag, .slice ao n cap] 68)).alloc (.cells #[.int .i64 0, .string ⟨#[]⟩] 52)) := (nbelow w _).trans ((nbelow _ _).mono (by simp))
  have hz : (w.alloc (.cells #[.int .i64 tag, .slice ao n cap] 68)).heap.size = w.heap.size + 1 := by simp
  have hr : ((w.alloc (.cells #[.int .i64 tag, .slice ao n cap] 68)).alloc (.cells #[.int .i64 0, .string ⟨#[]⟩] 52)).heap[w.heap.size + 1]? = some (.cells #[.int .i64 0, .string ⟨#[]⟩] 52) := by rw [← hz]; exact heap_alloc_new _ _
  have hxb : Byt xs := hs.hbyt
  have hxl := hs.hlen
  have hPl : (oneS xs).2.1.length ≤ xs.length := one_len xs
  have h1 := hide (one_any ao n cap xs _ (hs.below BX) (by omega))
  have HBX := hide BX
  have HR := hide hr
  clear hs BX hr hz
  go_enter Tryd.func42, Tryd.ntmps42
  go_wp2_with fail
  refine h1.out.mono ?_
  rintro e w1 ⟨a1, m1, c1, rfl, o1, B1⟩
  have S1 := o1.toSrc (one_byte xs hxb)
  have HB1 := hide (HBX.out.trans (B1.mono HBX.out.size))
  have HR1 := hide ((B1.block _ (Array.getElem?_eq_some_iff.1 HR.out).1).trans HR.out)
  clear o1 B1 HBX HR h1
  have hDA : Hid (dcA xs = if (decS (contS (oneS xs).2.1)).1.length = 4 then ((decS (contS (oneS xs).2.1)).1.getD 3 0, strOfNums (oneS ((oneS xs).2.1.drop (findS (oneS xs).2.1).2.2.1.toNat)).2.1) else (0, ByteArray.empty)) := rfl
  generalize (oneS xs).2.1 = P at S1 hDA hPl
  generalize (oneS xs).1 = T1
  generalize (oneS xs).2.2 = E1
  obtain ⟨h, hh, hle⟩ := find_size P S1.hbyt
  have hPb : Byt P := S1.hbyt
  have hPm := S1.hlen
  have b1 := nbelow w1 (.cells #[.int .i64 T1, .slice a1 m1 c1] 68)
  have e1 : (w1.alloc (.cells #[.int .i64 T1, .slice a1 m1 c1] 68)).cell? ⟨w1.heap.size, 1, none⟩ = some (.slice a1 m1 c1) := by simp
  have S1b := S1.below b1
  have h20 := take_any a1 m1 c1 P _ S1b (by omega)
  rw [hh] at h20
  rw [hh, Int.toNat_natCast] at hDA
  have h2 := hide h20
  replace HB1 := hide (HB1.out.trans (b1.mono HB1.out.size))
  replace HR1 := hide ((b1.block _ (Array.getElem?_eq_some_iff.1 HR1.out).1).trans HR1.out)
  clear h20 S1 b1
  go_wp2_with fail
  refine h2.out.mono ?_
  rintro e w2 ⟨a2, m2, c2, rfl, o2, B2⟩
  have S2 := o2.toSrc (cont_byteN P hPb)
  have hm2 := S2.hlen
  have hCl : (contS P).length ≤ P.length := by unfold contS; rw [List.length_drop, List.length_take]; omega
  replace e1 := (B2.cell (p := ⟨w1.heap.size, 1, none⟩) (lt_of_cell e1)).trans e1
  replace S1b := S1b.below B2
  replace HB1 := hide (HB1.out.trans (B2.mono HB1.out.size))
  replace HR1 := hide ((B2.block _ (Array.getElem?_eq_some_iff.1 HR1.out).1).trans HR1.out)
  generalize (findS P).1 = T2
  generalize (findS P).2.2.2 = E2
  have b2 := nbelow w2 (.cells #[.int .i64 T2, .slice a2 m2 c2] 68)
  have e2 : (w2.alloc (.cells #[.int .i64 T2, .slice a2 m2 c2] 68)).cell? ⟨w2.heap.size, 1, none⟩ = some (.slice a2 m2 c2) := by simp
  have e1b : (w2.alloc (.cells #[.int .i64 T2, .slice a2 m2 c2] 68)).cell? ⟨w1.heap.size, 1, none⟩ = some (.slice a1 m1 c1) := (b2.cell (p := ⟨w1.heap.size, 1, none⟩) (lt_of_cell e1)).trans e1
  have sl := fun X => slice_lo X a1 m1 c1 (h : Int) h rfl (by omega)
  have S1t := (S1b.below b2).tailN h (by omega)
  have S2b := S2.below b2
  have h3 := hide (one_any _ _ _ _ _ S1t (by omega))
  replace HB1 := hide (HB1.out.trans (b2.mono HB1.out.size))
  replace HR1 := hide ((b2.block _ (Array.getElem?_eq_some_iff.1 HR1.out).1).trans HR1.out)
  have hVb : Byt (oneS (P.drop h)).2.1 := one_byte _ (fun x hx => hPb x (List.mem_of_mem_drop hx))
  clear S1t S1b S2 o2 B2 b2 h2 e1
  go_wp2_with fail
  refine h3.out.mono ?_
  rintro e w3 ⟨a3, m3, c3, rfl, o3, B3⟩
  have S3 := o3.toSrc hVb
  generalize (oneS (P.drop h)).2.1 = V at S3 hDA
  generalize (oneS (P.drop h)).1 = T3
  generalize (oneS (P.drop h)).2.2 = E3
  replace e2 := (B3.cell (p := ⟨w2.heap.size, 1, none⟩) (lt_of_cell e2)).trans e2
  have b3 := nbelow w3 (.cells #[.int .i64 T3, .slice a3 m3 c3] 68)
  have e3 : (w3.alloc (.cells #[.int .i64 T3, .slice a3 m3 c3] 68)).cell? ⟨w3.heap.size, 1, none⟩ = some (.slice a3 m3 c3) := by simp
  have e2b : (w3.alloc (.cells #[.int .i64 T3, .slice a3 m3 c3] 68)).cell? ⟨w2.heap.size, 1, none⟩ = some (.slice a2 m2 c2) := (b3.cell (p := ⟨w2.heap.size, 1, none⟩) (lt_of_cell e2)).trans e2
  have S2c := (S2b.below B3).below b3
  replace S3 := S3.below b3
  have h4 := hide (callsIn_wide.1 (decode_in a2 m2 c2 (contS P) _ S2c (by omega)))
  replace HB1 := hide ((HB1.out.trans (B3.mono HB1.out.size)).trans (b3.mono (Nat.le_trans HB1.out.size B3.size)))
  replace HR1 := hide ((B3.block _ (Array.getElem?_eq_some_iff.1 HR1.out).1).trans HR1.out)
  replace HR1 := hide ((b3.block _ (Array.getElem?_eq_some_iff.1 HR1.out).1).trans HR1.out)
  clear S2b S2c o3 B3 b3 h3 e2 e1b sl
  go_wp2_with fail
  refine h4.out.mono ?_
  rintro e w4 ⟨a4, L4, c4, rfl, o4, B4⟩
  replace S3 := S3.below B4
  replace e3 := (B4.cell (p := ⟨w3.heap.size, 1, none⟩) (lt_of_cell e3)).trans e3
  have HB2 := hide (HB1.out.trans (B4.mono HB1.out.size))
  have hr4 := (B4.block _ (Array.getElem?_eq_some_iff.1 HR1.out).1).trans HR1.out
  have z0 : w4.cell? ⟨w.heap.size + 1, 0, none⟩ = some (.int .i64 0) := by simp [World.cell?, hr4]
  have z1 : w4.cell? ⟨w.heap.size + 1, 1, none⟩ = some (.string ⟨#[]⟩) := by simp [World.cell?, hr4]
  have f0 : w4.frozen? ⟨w.heap.size + 1, 0, none⟩ = false := by simp [World.frozen?, hr4]
  have f1 : w4.frozen? ⟨w.heap.size + 1, 1, none⟩ = false := by simp [World.frozen?, hr4]
  have hr5 := hide hr4
  generalize (decS (contS P)).1 = A at o4 hDA
  generalize (decS (contS P)).2 = E4
  clear B4 HB1 HR1 h4 e2b hr4
  have hLA : L4 = A.length := by
    rcases o4.2 with ⟨h5, h6⟩ | ⟨g, cap, cur, h5, _⟩
    · cases h5; rw [h6]
    · exact (Value.slice.inj h5).2.1
  by_cases hA : A.length = 4
  · have hD : Hid (dcA xs = (A.getD 3 0, strOfNums V)) := by unfold Hid; rw [hDA.out, if_pos hA]
    obtain ⟨g, rfl⟩ : ∃ g, a4 = some ⟨g, 0, none⟩ := by
      rcases o4.2 with ⟨h5, h6⟩ | ⟨g, cap, cur, h5, _⟩
      · omega
      · exact ⟨g, (Value.slice.inj h5).1⟩
    have cq : w4.cell? ⟨g, 3, none⟩ = some (.int .i64 (A.getD 3 0)) := by
      have h7 := o4.cells (g := g) rfl 3 (.int .i64 (A.getD 3 0)) (by rw [List.getElem?_map, List.getElem?_eq_getElem (by omega)]; simp [List.getD, List.getElem?_eq_getElem (show 3 < A.length by omega)])
      rwa [add_none, Nat.zero_add] at h7
    obtain rfl : L4 = 4 := by omega
    have tq : (convert 25 9 (.slice a3 m3 c3)).run Tryd.prog w4.drew = .ok (.string (strOfNums V)) w4.drew := (S3.heap (w' := w4.drew) rfl).text
    clear o4 hLA hA S3
    generalize A.getD 3 0 = q at cq hD
    go_wp2_with fail
    go_region
    all_goals
      go_wp2
      have hz3 := two_cells (after2 (W := w4) hr5.out (.int .i64 q) (.string (strOfNums V)))
      refine bodyPost_ret (v := .agg #[.int .i64 q, .string (strOfNums V)]) (by simp [results, Tryd.results42, go_sem, hz3.1, hz3.2]) rfl ⟨by rw [hD.out], ?_⟩
      first | exact ((HB2.out.setCell (Nat.le_succ _) _).setCell (Nat.le_succ _) _).drew | exact ((HB2.out.drew).setCell (Nat.le_succ _) _).setCell (Nat.le_succ _) _
  · have hD : Hid (dcA xs = (0, ByteArray.empty)) := by unfold Hid; rw [hDA.out, if_neg hA]
    have hn : ¬ (L4 : Int) = 4 := by omega
    clear o4 S3 e3
    go_wp2
    have hz3 := two_cells (after2 (W := w4) hr5.out (.int .i64 0) (.string ⟨#[]⟩))
    refine bodyPost_ret (v := .agg #[.int .i64 0, .string ⟨#[]⟩]) (by simp [results, Tryd.results42, go_sem, hz3.1, hz3.2]) rfl ⟨by rw [hD.out]; rfl, ?_⟩
    exact (HB2.out.setCell (Nat.le_succ _) _).setCell (Nat.le_succ _) _

end Go.Proofs.YtgbbgfjamneioaaDoor
