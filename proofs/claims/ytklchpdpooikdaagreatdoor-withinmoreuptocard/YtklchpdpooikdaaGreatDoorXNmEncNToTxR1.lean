/-
  name.Encode: the bytes of a name.
  Rows of strings that a call owns, and appending one to them.
  The document's Words: the words of a text, as a row.
-/
import Derived.Test.YtklchpdpooikdaaGreatDoorXNmEnc
import Derived.Test.YtklchpdpooikdaaGreatDoorXBaseToBts
import Derived.Test.YtklchpdpooikdaaGreatDoorXItsToNextS
import Derived.Test.YtklchpdpooikdaaGreatDoorXTxW1ToTxF1
namespace Go.Proofs.YtklchpdpooikdaaGreatDoor
open Go.RowKit Go.IntWalk Go.Shelf

/-- The bytes of the attributes. -/
def encR (xs : List (Int × ByteArray)) : List Int := (xs.map (fun x => encA x.1 x.2)).flatten
theorem encR_snoc (xs : List (Int × ByteArray)) (k : Nat) (h : k < xs.length) : encR (xs.take (k + 1)) = encR (xs.take k) ++ encA (xs.getD k (0, ByteArray.empty)).1 (xs.getD k (0, ByteArray.empty)).2 := by
  unfold encR
  rw [List.take_succ_eq_append_getElem h, List.map_append, List.flatten_append]
  simp [List.getD, h]
theorem encR_byte (xs : List (Int × ByteArray)) : Byt (encR xs) := by
  intro x hx
  unfold encR at hx
  obtain ⟨l, hl, hx⟩ := List.mem_flatten.1 hx
  obtain ⟨y, _, rfl⟩ := List.mem_map.1 hl
  exact encA_byte _ _ x hx
/-- The bytes of a name, or none; and the error's number. -/
def encNC (xs : List (Int × ByteArray)) : List Int := if nameL xs = true then putB 48 [encR xs] else []
def encNE (xs : List (Int × ByteArray)) : Int := if nameL xs = true then 0 else 120
theorem encNC_byte (xs : List (Int × ByteArray)) : Byt (encNC xs) := by
  unfold encNC
  split
  · exact putB_byte _ _ (fun l hl => by simp at hl; subst hl; exact encR_byte _)
  · intro x hx; cases hx

theorem putB_len (tag : Int) (ls : List (List Int)) : (putB tag ls).length ≤ ls.flatten.length + 5 := by
  unfold putB putS
  split
  · simp
  · split
    · simp
    · rename_i h
      have := lenB_len4 ls.flatten.length
      simp only [List.nil_append, List.length_append, List.length_cons, List.length_nil]
      omega
theorem putB_ne (tag : Int) (ls : List (List Int)) (h1 : isTagB tag = true) (h2 : ls.flatten.length ≤ 16777215) : putB tag ls ≠ [] := by
  unfold putB putS
  rw [if_neg (by simp [h1]), if_neg (by omega)]
  simp
theorem idB_len (t : Int) : (idB t).length ≤ 20 := by
  unfold idB encC encS
  split
  · have h1 := flat_len ([2, 5, 4, t].drop 2)
    have h2 := numB_len (40 * [2, 5, 4, t].getD 0 0 + [2, 5, 4, t].getD 1 0)
    have h3 := sizeS_in (40 * [2, 5, 4, t].getD 0 0 + [2, 5, 4, t].getD 1 0)
    rw [List.length_append]
    simp only [List.drop_succ_cons, List.drop_zero, List.length_cons, List.length_nil] at h1 ⊢
    omega
  · simp
theorem encA_ne (t : Int) (s : ByteArray) (hs : s.size ≤ 1048576) : encA t s ≠ [] := by
  unfold encA
  refine putB_ne _ _ (by decide) ?_
  have h1 := putB_len 48 [putB 6 [idB t], putB (kindL s.data.toList).1 [nums s.data.toList]]
  have h2 := putB_len 6 [idB t]
  have h3 := putB_len (kindL s.data.toList).1 [nums s.data.toList]
  have h4 := idB_len t
  have h5 : (nums s.data.toList).length = s.size := by unfold nums; rw [List.length_map, size_len]
  simp only [List.flatten_cons, List.flatten_nil, List.append_nil, List.length_append] at h1 h2 h3 ⊢
  omega
theorem encA_len (t : Int) (s : ByteArray) (hs : s.size ≤ 1048576) : (encA t s).length ≤ 1100000 := by
  unfold encA
  have h0 := putB_len 49 [putB 48 [putB 6 [idB t], putB (kindL s.data.toList).1 [nums s.data.toList]]]
  have h1 := putB_len 48 [putB 6 [idB t], putB (kindL s.data.toList).1 [nums s.data.toList]]
  have h2 := putB_len 6 [idB t]
  have h3 := putB_len (kindL s.data.toList).1 [nums s.data.toList]
  have h4 := idB_len t
  have h5 : (nums s.data.toList).length = s.size := by unfold nums; rw [List.length_map, size_len]
  simp only [List.flatten_cons, List.flatten_nil, List.append_nil, List.length_append] at h0 h1 h2 h3 ⊢
  omega
theorem encR_len (xs : List (Int × ByteArray)) (k : Nat) (hk : k ≤ xs.length) (hz : ∀ x ∈ xs, x.2.size ≤ 1048576) : (encR (xs.take k)).length ≤ k * 1100000 := by
  induction k with
  | zero => simp [encR]
  | succ k ih =>
    rw [encR_snoc xs k (by omega), List.length_append]
    have h1 := encA_len (xs.getD k (0, ByteArray.empty)).1 (xs.getD k (0, ByteArray.empty)).2 (hz _ (getD_mem (by omega)))
    have h2 := ih (by omega)
    omega
theorem attr_type {t : Int} {l : List UInt8} (h : attrL t l = true) : 0 ≤ t ∧ t ≤ 255 := by
  unfold attrL at h
  split at h
  · omega
  · split at h
    · omega
    · rw [Bool.and_eq_true] at h
      have := of_decide_eq_true h.1
      omega

set_option maxRecDepth 100000 in
set_option maxHeartbeats 2000000 in
theorem encodeN_any (ao : Option Addr) (n cap : Nat) (xs : List (Int × ByteArray)) (w : World) (hA : Ats w ao n cap xs) (hz : ∀ x ∈ xs, x.2.size ≤ 1048576) :
    Calls Tryz.prog 121 #[.slice ao n cap] w fun e w' => ∃ a m c, e = .returned (.tuple #[.slice a m c, .int .i64 (encNE xs)]) ∧ OwnB w' w.heap.size (.slice a m c) (encNC xs) ∧ Below w.heap.size w w' := by
  have hM := hide (mayN_any ao n cap xs w hA (fun x hx => by have := hz x hx; omega))
  have HL := hide hA.hl
  have hc := hA.hcap
  have hm := hA.hmax
  unfold maxLen at hm
  have HA := hide hA
  have HZ := hide hz
  clear hA hz
  cases hN : nameL xs with
  | false =>
    have e1 : encNC xs = [] := by unfold encNC; rw [hN]; rfl
    have e2 : encNE xs = 120 := by unfold encNE; rw [hN]; rfl
    rw [e1, e2]
    rw [hN] at hM
    clear hN e1 e2
    go_enter Tryz.func121, Tryz.ntmps121
    go_wp2_with fail
    refine hM.out.mono ?_
    rintro e w1 ⟨rfl, B1⟩
    go_wp2
    refine bodyPost_ret (v := .tuple #[.slice none 0 0, .int .i64 120]) (by simp [results, Tryz.results121, go_sem]) rfl ⟨none, 0, 0, rfl, OwnB.nil _ _, B1⟩
  | true =>
    have e1 : encNC xs = (putS [] 48 [encR xs]).1 := by unfold encNC; rw [hN]; rfl
    have e2 : encNE xs = 0 := by unfold encNE; rw [hN]; rfl
    have h16 : n ≤ 16 := by
      unfold nameL at hN
      rw [Bool.and_eq_true] at hN
      have := of_decide_eq_true hN.1
      rw [HL.out] at this
      exact this
    have HAT : Hid (∀ x ∈ xs, attrL x.1 x.2.data.toList = true) := by
      unfold nameL at hN
      rw [Bool.and_eq_true] at hN
      exact List.all_eq_true.1 hN.2
    rw [e1, e2]
    rw [hN] at hM
    clear hN e1 e2
    go_enter Tryz.func121, Tryz.ntmps121
    go_wp2_with fail
    refine hM.out.mono ?_
    rintro e w1 ⟨rfl, B1⟩
    have HB := hide B1
    clear B1 hM
    go_wp2
    go_loopw [4, 12] (fun cv v wr => ∃ (aC : Option Addr) (mC cC k : Nat), cv = .slice aC mC cC ∧ v = .int .i64 k ∧ k ≤ n ∧ Hid (OwnB wr w.heap.size (.slice aC mC cC) (encR (xs.take k)) ∧ Below w.heap.size w wr)) (fun _ v _ => n - (intOf v).toNat)
    case atStart => exact ⟨none, 0, 0, 0, rfl, rfl, Nat.zero_le _, OwnB.nil _ _, HB.out⟩
    case round =>
      obtain ⟨aC, mC, cC, k, rfl, rfl, hk, HQ⟩ := hrel
      by_cases hlt : k < n
      · have ltI : (k : Int) < (n : Int) := by omega
        obtain ⟨b, off, rfl, hcl⟩ := (HA.out.below HQ.out.2).hrd (by omega)
        obtain ⟨c0, c1⟩ := hcl k hlt
        have hsn := hide (encR_snoc xs k (by rw [HL.out]; exact hlt))
        have hmem := getD_mem (xs := xs) (i := k) (by rw [HL.out]; exact hlt)
        have hsz := HZ.out _ hmem
        have hty := attr_type (HAT.out _ hmem)
        have hln := hide (encR_len xs k (by rw [HL.out]; exact hk) HZ.out)
        generalize xs.getD k (0, ByteArray.empty) = x at c0 c1 hsn hsz hty
        obtain ⟨t, s⟩ := x
        simp only [] at c0 c1 hsz hty
        clear hcl hmem
        replace hsn : Hid (encR (xs.take (k + 1)) = encR (xs.take k) ++ encA t s) := hsn.out
        have hE := hide (fun W => encoded_any t s hty hsz W)
        have hne := hide (encA_ne t s hsz)
        have hAl := hide (encA_len t s hsz)
        have hAb := hide (encA_byte t s)
        generalize encA t s = E at hE hne hAl hsn hAb
        have B2 := hide (HQ.out.2.alloc HQ.out.2.size (.cells #[.int .i64 t, .string s] 111))
        have O2 := hide (HQ.out.1.alloc (.cells #[.int .i64 t, .string s] 111))
        go_wp2_with fail
        refine (hE.out _).mono ?_
        rintro e w2 ⟨x2, m2, c2, rfl, o2, L2⟩
        have B3 := hide (B2.out.trans (L2.mono B2.out.size))
        have O3 := hide (O2.out.belowA L2)
        have S2 := hide (o2.toSrc hAb.out)
        clear o2 L2 B2 O2 hE
        go_wp2_with (at_builtin; refine wpList_appN _ rfl (.tmp 16) (.tmp 18) rfl w.heap.size (.slice aC mC cC) (encR (xs.take k)) rfl O3.out x2 m2 c2 E rfl S2.out ((encR (xs.take k)).length + E.length) (by rw [List.length_append]) (.inr hne.out) (by have := hln.out; have := hAl.out; omega) B3.out.size ?_; intro g3 c3 w3 ho3 hb3 hl3 hc3 hm3 hg3)
        go_roundw
        case rel => exact ⟨some ⟨g3, 0, none⟩, (encR (xs.take k)).length + E.length, c3, k + 1, rfl, by simp, by omega, by rw [hsn.out]; exact ho3, B3.out.grown hg3 B3.out.size (fun j hj => (O3.out.lt j hj).1)⟩
        case measure => simp [intOf]; omega
      · have ltI : ¬ (k : Int) < (n : Int) := by omega
        obtain rfl : k = n := by omega
        have hx : xs.take k = xs := List.take_of_length_le (by rw [HL.out]; omega)
        rw [hx] at HQ
        have S0 := HQ.out.1.toSrc (encR_byte xs)
        have hb := nbelow wr (.cells #[.slice aC mC cC] 64)
        have r0 : (wr.alloc (.cells #[.slice aC mC cC] 64)).cell? ⟨wr.heap.size, 0, none⟩ = some (.slice aC mC cC) := by simp
        have hP := hide (nput_any 48 _ 1 1 _ _ _ (Parts.one r0 (S0.below hb)) (by decide))
        have B2 := hide (HQ.out.2.trans (hb.mono HQ.out.2.size))
        clear S0 hb r0
        go_wp2_with fail
        refine hP.out.mono ?_
        rintro e w2 ⟨x2, m2, c2, rfl, o2, L2⟩
        go_wp2
        refine bodyPost_ret (v := .tuple #[.slice x2 m2 c2, .int .i64 0]) (by simp [results, Tryz.results121, go_sem]) rfl ⟨x2, m2, c2, rfl, o2.rebase B2.out.size, B2.out.trans (L2.mono B2.out.size)⟩

end Go.Proofs.YtklchpdpooikdaaGreatDoor

namespace Go.Proofs.YtklchpdpooikdaaGreatDoor
open Go.RowKit Go.IntWalk

theorem Tryz.infoS : (Tryz.prog.info? 9).map (fun i => (i.zero, i.size, i.bytes)) = some (some (.string ⟨#[]⟩), 1, 16) := by kernel_rfl

/-- A row of strings that the call owns. -/
def OwnS (w : World) (base : Nat) (v : Value) (ss : List ByteArray) : Prop := w.ownsRow base 9 1 v ss.length (ss.map Value.string)

theorem OwnS.nil (w : World) (base : Nat) : OwnS w base (.slice none 0 0) [] := World.ownsRow_nil _ _ _ _

theorem OwnS.split {w : World} {base : Nat} {v : Value} {ss : List ByteArray} (h : OwnS w base v ss) :
    (v = .slice none 0 0 ∧ ss = []) ∨ ∃ g cap, v = .slice (some ⟨g, 0, none⟩) ss.length cap ∧ base ≤ g ∧ g < w.heap.size ∧ ss.length ≤ cap ∧ cap ≤ maxLen := by
  rcases own_split h with ⟨h1, _, h3⟩ | h
  · exact .inl ⟨h1, by simpa using h3⟩
  · exact .inr h

theorem OwnS.lt {w : World} {base : Nat} {v : Value} {ss : List ByteArray} (h : OwnS w base v ss) : ∀ k, v.ownBlock = some k → base ≤ k ∧ k < w.heap.size := World.ownsRow.lt h

theorem OwnS.belowA {w w' : World} {base : Nat} {v : Value} {ss : List ByteArray} (h : OwnS w base v ss) (hb : Below w.heap.size w w') : OwnS w' base v ss := by
  have hlt := h.lt
  obtain ⟨hl, h⟩ := h
  refine ⟨hl, ?_⟩
  rcases h with h | ⟨g, cap, cur, rfl, hbg, hh, r⟩
  · exact .inl h
  · exact .inr ⟨g, cap, cur, rfl, hbg, by rw [hb.block g (hlt g rfl).2]; exact hh, r⟩

theorem OwnS.alloc {w : World} {base : Nat} {v : Value} {ss : List ByteArray} (h : OwnS w base v ss) (o : Obj) : OwnS (w.alloc o) base v ss := World.ownsRow.alloc h o

theorem OwnS.heap {w w' : World} {base : Nat} {v : Value} {ss : List ByteArray} (h : OwnS w base v ss) (e : w'.heap = w.heap) : OwnS w' base v ss := by
  obtain ⟨hl, h⟩ := h
  refine ⟨hl, ?_⟩
  rcases h with h | ⟨g, cap, cur, rfl, hbg, hh, r⟩
  · exact .inl h
  · exact .inr ⟨g, cap, cur, rfl, hbg, by rw [e]; exact hh, r⟩

theorem OwnS.cells {w : World} {base g n cap : Nat} {ss : List ByteArray} (h : OwnS w base (.slice (some ⟨g, 0, none⟩) n cap) ss) :
    ∀ (j : Nat) x, ss[j]? = some x → w.cell? ⟨g, 0 + j, none⟩ = some (.string x) := by
  intro j x hj
  have h1 := World.ownsRow.cells h (g := g) rfl j (.string x) (by simp [hj])
  rw [add_none] at h1
  exact h1

/-- 'append(l, s)'. -/
theorem wpList_appS {ops : Array Oper} {rest : List Oper} {o : Oper} {a : Act} {Q : Exit → Act → World → Prop} (w : World) (hgd : o.guard = none) (s x : Operand)
    (ho : o.op = .call { callee := .builtin .append, args := #[s, x], argTypes := #[67, 67] })
    (base : Nat) (v : Value) (ss : List ByteArray) (hs : a.eval s = v) (hown : OwnS w base v ss) (b : Nat) (z : ByteArray) (hx : a.eval x = .slice (some ⟨b, 0, none⟩) 1 1) (hcell : w.cell? ⟨b, 0, none⟩ = some (.string z))
    (t : Nat) (ht : ss.length + 1 = t) (hb : t ≤ 4000000000) (hbase : base ≤ w.heap.size)
    (h : ∀ g c' w', OwnS w' base (.slice (some ⟨g, 0, none⟩) t c') (ss ++ [z]) → base ≤ g → g < w'.heap.size → t ≤ c' → c' ≤ maxLen → w.grownBy w' v.ownBlock → wpList Tryz.prog ops Q rest (a.put o.dst (.slice (some ⟨g, 0, none⟩) t c')) w') :
    wpList Tryz.prog ops Q (o :: rest) a w := by
  obtain ⟨i0, hi, hz0, hz1, hz2⟩ := info_parts Tryz.infoS
  refine wpList_append_own w hgd s x 67 ho base 9 i0 (.string ⟨#[]⟩) 1 16 Tryz.underlying67 hi hz0 hz1 hz2 rfl (by decide) v _ _ hs hown ⟨b, 0, none⟩ 1 1 [.string z] hx rfl ?_ (by simp; rfl) (by unfold maxLen; omega) (by omega) hbase ?_
  · intro j u hj
    match j, hj with
    | 0, hj => simp at hj; subst hj; rw [add_none]; exact hcell
  · intro v' w' h1 h2 h3
    have h1' : OwnS w' base v' (ss ++ [z]) := by unfold OwnS; rw [List.length_append, List.map_append]; exact h1
    rcases h1'.split with ⟨hv, hx'⟩ | ⟨g, c', hv, hb', hl', hc', hm'⟩
    · simp at hx'
    · have e : (ss ++ [z]).length = t := by rw [List.length_append]; exact ht
      rw [e] at hv hc'
      subst hv
      exact h g c' w' h1' hb' hl' hc' hm' h2

end Go.Proofs.YtklchpdpooikdaaGreatDoor

namespace Go.Proofs.YtklchpdpooikdaaGreatDoor
open Go.RowKit Go.IntWalk

/-- Words as texts. -/
def texts (ws : List (List UInt8)) : List ByteArray := ws.map (fun u => ⟨u.toArray⟩)

/-- What has been told of the words, and what is left. -/
def WRel (l : List UInt8) (ws : List (List UInt8)) (a k : Nat) : Prop := (k ≤ l.length → wordsL l = ws ++ wordsG (cutL l a k) (l.drop k)) ∧ (l.length < k → wordsL l = ws)

theorem wrel_start (l : List UInt8) : WRel l [] 0 0 := ⟨fun _ => words_begin l, fun h => by omega⟩

theorem wrel_end (l : List UInt8) (ws : List (List UInt8)) (a k : Nat) (h : WRel l ws a k) (hk : l.length < k) : wordsL l = ws := h.2 hk

theorem wrel_step (l : List UInt8) (ws : List (List UInt8)) (a k : Nat) (h : WRel l ws a k) (hak : a ≤ k) (hk : k < l.length) (hb : l[k]'hk ≠ 32) : WRel l ws a (k + 1) := by
  refine ⟨fun _ => ?_, fun h => by omega⟩
  rw [h.1 (by omega), words_step l a k 1 hak (by omega) ?_]
  intro b hb2
  have e : (l.drop k).take 1 = [l[k]'hk] := by rw [List.drop_eq_getElem_cons hk]; rfl
  rw [e] at hb2
  have hb3 := List.mem_singleton.1 hb2
  subst hb3
  exact hb

theorem wrel_empty (l : List UInt8) (ws : List (List UInt8)) (a k : Nat) (h : WRel l ws a k) (hk : k ≤ l.length) (e : a = k) (hs : k = l.length ∨ ∃ h : k < l.length, l[k]'h = 32) : WRel l ws (k + 1) (k + 1) := by
  subst e
  rcases hs with hs | ⟨hlt, hs⟩
  · subst hs
    refine ⟨fun h => by omega, fun _ => ?_⟩
    rw [h.1 (Nat.le_refl _), words_end l _ (Nat.le_refl _), if_pos rfl, List.append_nil]
  · refine ⟨fun _ => ?_, fun h => by omega⟩
    rw [h.1 hk, words_blank l a a hlt hs (Nat.le_refl _), if_pos rfl]

theorem wrel_word (l : List UInt8) (ws : List (List UInt8)) (a k : Nat) (h : WRel l ws a k) (hk : k ≤ l.length) (e : a < k) (hs : k = l.length ∨ ∃ h : k < l.length, l[k]'h = 32) : WRel l (ws ++ [cutL l a k]) (k + 1) (k + 1) := by
  rcases hs with hs | ⟨hlt, hs⟩
  · subst hs
    refine ⟨fun h => by omega, fun _ => ?_⟩
    rw [h.1 (Nat.le_refl _), words_end l _ (by omega), if_neg (by omega)]
  · refine ⟨fun _ => ?_, fun h => by omega⟩
    rw [h.1 hk, words_blank l a k hlt hs (by omega), if_neg (by omega), List.append_assoc]
    rfl

theorem stop_list (s : ByteArray) (k : Nat) (h : k = s.size ∨ ∃ h : k < s.size, (s[k]'h) = 32) : k = s.data.toList.length ∨ ∃ h : k < s.data.toList.length, s.data.toList[k]'h = 32 := by
  rcases h with h | ⟨h, e⟩
  · left; rw [size_len]; exact h
  · right; exact ⟨by rw [size_len]; exact h, by rw [get_list s k h]; exact e⟩

theorem texts_more (ws : List (List UInt8)) (u : List UInt8) : texts (ws ++ [u]) = texts ws ++ [⟨u.toArray⟩] := by simp [texts]

set_option maxRecDepth 100000 in
set_option maxHeartbeats 2000000 in
theorem refWords_any (s : ByteArray) (hs : s.size ≤ 1048576) (w : World) :
    Calls Tryz.prog 133 #[.string s] w fun e w' => ∃ ao c, e = .returned (.slice ao (wordsL s.data.toList).length c) ∧ OwnS w' w.heap.size (.slice ao (wordsL s.data.toList).length c) (texts (wordsL s.data.toList)) ∧ Below w.heap.size w w' := by
  go_enter Tryz.func133, Tryz.ntmps133
  have hSL := size_len s
  go_wp2
  go_loopw [3, 4, 5] (fun l f i wr => ∃ (ws : List (List UInt8)) (ao : Option Addr) (c a k : Nat), l = .slice ao ws.length c ∧ f = .int .i64 a ∧ i = .int .i64 k ∧ a ≤ k ∧ k ≤ s.size + 1 ∧ ws.length ≤ k ∧ Hid (OwnS wr w.heap.size (.slice ao ws.length c) (texts ws) ∧ Below w.heap.size w wr) ∧ Hid (WRel s.data.toList ws a k)) (fun _ _ i _ => s.size + 1 - (intOf i).toNat)
  case atStart => exact ⟨[], none, 0, 0, 0, rfl, rfl, rfl, Nat.le_refl _, by omega, Nat.le_refl _, ⟨OwnS.nil _ _, Below.refl _ _⟩, wrel_start _⟩
  case round =>
    obtain ⟨ws, ao, c, a, k, rfl, rfl, rfl, hak, hk, hwk, HO, HW⟩ := hrel
    by_cases hle : k ≤ s.size
    · have leI : (k : Int) ≤ (s.size : Int) := by omega
      by_cases hstop : k = s.size ∨ ∃ h : k < s.size, (s[k]'h) = 32
      · have hb : Hid (a = k → WRel s.data.toList ws (k + 1) (k + 1)) := fun e => wrel_empty s.data.toList ws a k HW.out (by omega) e (stop_list s k hstop)
        have hw : Hid (a < k → WRel s.data.toList (ws ++ [cutL s.data.toList a k]) (k + 1) (k + 1)) := fun e => wrel_word s.data.toList ws a k HW.out (by omega) e (stop_list s k hstop)
        have sl : ∀ X, (Instr.slice 9 (.string s) (some (.int .i64 (a : Int))) (some (.int .i64 (k : Int))) none).run Tryz.prog X = .ok (.string ⟨(cutL s.data.toList a k).toArray⟩) X := fun X => by
          have h := run_slice_string (P := Tryz.prog) (w := X) 9 s .i64 .i64 (a : Int) (k : Int) Tryz.underlying9 (by omega) (by omega) (by omega)
          rw [h, ← cut_text]; simp
        generalize cutL s.data.toList a k = u at hw sl
        by_cases hend : k = s.size
        · subst hend
          clear hstop
          by_cases hlt : a < s.size
          · have hn := hide (hw.out hlt)
            have ltI : (a : Int) < (s.size : Int) := by omega
            have htl : (texts ws).length = ws.length := by simp [texts]
            have htl := hide htl
            clear hb hw HW
            go_wp2_with (at_builtin; refine wpList_appS _ rfl (.tmp 25) (.tmp 30) rfl w.heap.size _ (texts ws) rfl (HO.out.1.alloc _) wr.heap.size ⟨u.toArray⟩ rfl (by simp) (ws.length + 1) (by rw [htl.out]) (by omega) (by have := HO.out.2.size; simp; omega) ?_; intro g c' w1 o1 bg lg hc1 hm1 gr1)
            have HO1 : Hid (OwnS w1 w.heap.size (.slice (some ⟨g, 0, none⟩) (ws ++ [u]).length c') (texts (ws ++ [u])) ∧ Below w.heap.size w w1) := by
              unfold Hid
              rw [texts_more]
              have e : (ws ++ [u]).length = ws.length + 1 := by simp
              rw [e]
              exact ⟨o1, (HO.out.2.alloc HO.out.2.size _).grown gr1 (by have := HO.out.2.size; simp; omega) (fun j hj => (HO.out.1.lt j hj).1)⟩
            go_roundw
            case rel => exact ⟨ws ++ [u], some ⟨g, 0, none⟩, c', s.size + 1, s.size + 1, by simp, by simp, by simp, Nat.le_refl _, by omega, by simp; omega, HO1, hn⟩
            case measure => simp [intOf] <;> omega
          · have hn := hide (hb.out (by omega))
            have ltI : ¬ (a : Int) < (s.size : Int) := by omega
            clear hb hw HW
            go_wp2
            go_roundw
            case rel => exact ⟨ws, ao, c, s.size + 1, s.size + 1, rfl, by simp, by simp, Nat.le_refl _, by omega, by omega, HO, hn⟩
            case measure => simp [intOf] <;> omega
        · have hltN : k < s.size := by omega
          have h32 : (s[k]'hltN) = 32 := by
            rcases hstop with h | ⟨_, h⟩
            · exact absurd h hend
            · exact h
          have hq : ((k : Int) == (s.size : Int)) = false := by simp; omega
          have h32' : ((s[k]'hltN).toNat : Int) = 32 := by rw [h32]; rfl
          clear hend hstop h32
          by_cases hlt : a < k
          · have hn := hide (hw.out hlt)
            have ltI : (a : Int) < (k : Int) := by omega
            have htl : (texts ws).length = ws.length := by simp [texts]
            have htl := hide htl
            clear hb hw HW
            go_wp2_with (at_builtin; refine wpList_appS _ rfl (.tmp 25) (.tmp 30) rfl w.heap.size _ (texts ws) rfl (HO.out.1.alloc _) wr.heap.size ⟨u.toArray⟩ rfl (by simp) (ws.length + 1) (by rw [htl.out]) (by omega) (by have := HO.out.2.size; simp; omega) ?_; intro g c' w1 o1 bg lg hc1 hm1 gr1)
            have HO1 : Hid (OwnS w1 w.heap.size (.slice (some ⟨g, 0, none⟩) (ws ++ [u]).length c') (texts (ws ++ [u])) ∧ Below w.heap.size w w1) := by
              unfold Hid
              rw [texts_more]
              have e : (ws ++ [u]).length = ws.length + 1 := by simp
              rw [e]
              exact ⟨o1, (HO.out.2.alloc HO.out.2.size _).grown gr1 (by have := HO.out.2.size; simp; omega) (fun j hj => (HO.out.1.lt j hj).1)⟩
            go_roundw
            case rel => exact ⟨ws ++ [u], some ⟨g, 0, none⟩, c', k + 1, k + 1, by simp, by simp, by simp, Nat.le_refl _, by omega, by simp; omega, HO1, hn⟩
            case measure => simp [intOf] <;> omega
          · have hn := hide (hb.out (by omega))
            have ltI : ¬ (a : Int) < (k : Int) := by omega
            clear hb hw HW
            go_wp2
            go_roundw
            case rel => exact ⟨ws, ao, c, k + 1, k + 1, rfl, by simp, by simp, Nat.le_refl _, by omega, by omega, HO, hn⟩
            case measure => simp [intOf] <;> omega
      · have hltN : k < s.size := by
          rcases Nat.lt_or_ge k s.size with h | h
          · exact h
          · exact absurd (.inl (by omega)) hstop
        have hne : (s[k]'hltN) ≠ 32 := fun e => hstop (.inr ⟨hltN, e⟩)
        have hn : Hid (WRel s.data.toList ws a (k + 1)) := wrel_step s.data.toList ws a k HW.out hak (by omega) (by rw [get_list s k hltN]; exact hne)
        have hq : ((k : Int) == (s.size : Int)) = false := by simp; omega
        have hne' : (((s[k]'hltN).toNat : Int) == 32) = false := by
          rw [beq_eq_false_iff_ne]
          intro e
          apply hne
          apply UInt8.toNat_inj.1
          have e2 : (32 : UInt8).toNat = 32 := rfl
          rw [e2]
          omega
        clear hstop hne
        go_wp2
        go_roundw
        case rel => exact ⟨ws, ao, c, a, k + 1, rfl, rfl, by simp, by omega, by omega, by omega, HO, hn⟩
        case measure => simp [intOf] <;> omega
    · obtain rfl : k = s.size + 1 := by omega
      have hF : Hid (wordsL s.data.toList = ws) := wrel_end _ _ _ _ HW.out (by omega)
      have hnI : ¬ ((s.size + 1 : Nat) : Int) ≤ (s.size : Int) := by omega
      go_wp2
      go_ret
      rw [hF.out]
      exact ⟨ao, c, rfl, HO.out.1, HO.out.2⟩

end Go.Proofs.YtklchpdpooikdaaGreatDoor
