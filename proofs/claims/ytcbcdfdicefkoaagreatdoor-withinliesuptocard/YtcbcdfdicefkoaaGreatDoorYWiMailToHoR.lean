/-
  within's questions of mail: isMail, hasMail.
  within.bit: does a bit of bytes stand?
  Rows of strings that a call owns, and appending one to them.
  The document's host: letters, digits, labels, host's names.
-/
import Derived.Test.YtcbcdfdicefkoaaGreatDoorYWiAll2ToWiBoM
import Derived.Test.YtcbcdfdicefkoaaGreatDoorYBaseToBts
import Derived.Test.YtcbcdfdicefkoaaGreatDoorYItsToNextS
import Derived.Test.YtcbcdfdicefkoaaGreatDoorYHoBToBoxSt
namespace Go.Proofs.YtcbcdfdicefkoaaGreatDoor
open Go.RowKit Go.Shelf Go.IntWalk

/-- What stands behind a dot at the beginning; else the text itself. -/
def trimD (s : List UInt8) : List UInt8 := Lib.trimPrefix s [46]
theorem trimD_len (s : List UInt8) : (trimD s).length ≤ s.length := by
  unfold trimD Lib.trimPrefix
  split
  · rw [List.length_drop]; omega
  · exact Nat.le_refl _
theorem trimD_any (s : List UInt8) (w : World) :
    Calls Tryz.prog 125 #[.string (tx s), .string ⟨#[46]⟩] w fun e w' => e = .returned (.string (tx (trimD s))) ∧ w' = w := Tryz.strings_TrimPrefix (tx s) (tx [46]) w

/-- May a subtree of mail have this Base? -/
def isMailL (b : List UInt8) : Bool := mailL b || dnsL (trimD b)
set_option maxRecDepth 100000 in
theorem isMail_kp (w0 : World) (b : List UInt8) (hb : b.length ≤ 1048576) (m : Int) (w : World) (hm : Kp w0 m w) :
    Calls Tryz.prog 97 #[.string (tx b)] w fun e w' => e = .returned (.bool (isMailL b)) ∧ Kp w0 m w' := by
  have hR : Hid (isMailL b = (mailL b || dnsL (trimD b))) := rfl
  have d1 : Hid (∀ W, Kp w0 m W → Calls Tryz.prog 77 #[.string (tx b)] W fun e W' => e = .returned (.bool (mailL b)) ∧ Kp w0 m W') := fun W h => (email_any b hb m W h.2).mono fun e W' ⟨k1, k2⟩ => ⟨k1, h.next k2⟩
  have d2 := hide (fun W => trimD_any b W)
  have d3 : Hid (∀ W, Kp w0 m W → Calls Tryz.prog 25 #[.string (tx (trimD b))] W fun e W' => e = .returned (.bool (dnsL (trimD b))) ∧ Kp w0 m W') := fun W h => (dns_any (trimD b) (Nat.le_trans (trimD_len b) hb) m W h.2).mono fun e W' ⟨k1, k2⟩ => ⟨k1, h.next k2⟩
  generalize isMailL b = R at hR ⊢
  generalize mailL b = A at hR d1
  generalize dnsL (trimD b) = D at hR d3
  cases A with
  | true =>
    go_enter Tryz.func97, Tryz.ntmps97
    go_wp2_with fail
    refine (d1.out _ hm).mono ?_
    rintro e w1 ⟨rfl, K1⟩
    go_wp2
    go_ret
    exact ⟨by rw [hR.out]; rfl, K1⟩
  | false =>
    go_enter Tryz.func97, Tryz.ntmps97
    go_wp2_with fail
    refine (d1.out _ hm).mono ?_
    rintro e w1 ⟨rfl, K1⟩
    go_wp2_with fail
    refine (d2.out _).mono ?_
    rintro e w2 ⟨rfl, rfl⟩
    go_wp2_with fail
    refine (d3.out _ K1).mono ?_
    rintro e w3 ⟨rfl, K3⟩
    go_wp2
    go_ret
    exact ⟨by rw [hR.out]; rfl, K3⟩

/-- Does a mail address lie in a subtree of mail? -/
def hasMailL (b s : List UInt8) : Bool :=
  if (cutD 64 b).2.2 = true then ((tx (cutD 64 s).1).toList == (tx (cutD 64 b).1).toList) && matchL (cutD 64 b).2.1 (cutD 64 s).2.1
  else if Lib.hasPrefix b [46] = true then belB (cutD 64 s).2.1 (trimD b) && !matchL (trimD b) (cutD 64 s).2.1
  else matchL b (cutD 64 s).2.1
theorem cutPre_any (s : List UInt8) (w : World) :
    Calls Tryz.prog 48 #[.string (tx s), .string ⟨#[46]⟩] w fun e w' => e = .returned (.tuple #[.string (tx (trimD s)), .bool (Lib.hasPrefix s [46])]) ∧ w' = w := Tryz.strings_CutPrefix (tx s) (tx [46]) w

set_option maxRecDepth 100000 in
set_option maxHeartbeats 2000000 in
theorem hasMail_kp (w0 : World) (b s : List UInt8) (hb : b.length ≤ 1048576) (hs : s.length ≤ 1048576) (m : Int) (w : World) (hm : Kp w0 m w) :
    Calls Tryz.prog 98 #[.string (tx b), .string (tx s)] w fun e w' => e = .returned (.bool (hasMailL b s)) ∧ Kp w0 m w' := by
  have hR : Hid (hasMailL b s = if (cutD 64 b).2.2 = true then ((tx (cutD 64 s).1).toList == (tx (cutD 64 b).1).toList) && matchL (cutD 64 b).2.1 (cutD 64 s).2.1 else if Lib.hasPrefix b [46] = true then belB (cutD 64 s).2.1 (trimD b) && !matchL (trimD b) (cutD 64 s).2.1 else matchL b (cutD 64 s).2.1) := rfl
  have cs := (cutD_rest 64 s)
  have cb := (cutD_rest 64 b)
  have ct := trimD_len b
  have d1 : Hid (∀ W, Kp w0 m W → Calls Tryz.prog 83 #[.string (tx s), .string ⟨#[64]⟩] W fun e W' => e = .returned (.tuple #[.string (tx (cutD 64 s).1), .string (tx (cutD 64 s).2.1), .bool (cutD 64 s).2.2]) ∧ Kp w0 m W') := fun W h => (cut_any s 64 hs m W h.2).mono fun e W' ⟨k1, k2⟩ => ⟨k1, h.next k2⟩
  have d2 : Hid (∀ W, Kp w0 m W → Calls Tryz.prog 83 #[.string (tx b), .string ⟨#[64]⟩] W fun e W' => e = .returned (.tuple #[.string (tx (cutD 64 b).1), .string (tx (cutD 64 b).2.1), .bool (cutD 64 b).2.2]) ∧ Kp w0 m W') := fun W h => (cut_any b 64 hb m W h.2).mono fun e W' ⟨k1, k2⟩ => ⟨k1, h.next k2⟩
  have d3 := hide (fun W => cutPre_any b W)
  have m1 : Hid (∀ W, Kp w0 m W → Calls Tryz.prog 23 #[.string (tx (cutD 64 b).2.1), .string (tx (cutD 64 s).2.1)] W fun e W' => e = .returned (.bool (matchL (cutD 64 b).2.1 (cutD 64 s).2.1)) ∧ Kp w0 m W') := fun W h => (match_any _ _ (Nat.le_trans cb.1 hb) (Nat.le_trans cs.1 hs) m W h.2).mono fun e W' ⟨k1, k2⟩ => ⟨k1, h.next k2⟩
  have m2 : Hid (∀ W, Kp w0 m W → Calls Tryz.prog 23 #[.string (tx (trimD b)), .string (tx (cutD 64 s).2.1)] W fun e W' => e = .returned (.bool (matchL (trimD b) (cutD 64 s).2.1)) ∧ Kp w0 m W') := fun W h => (match_any _ _ (Nat.le_trans ct hb) (Nat.le_trans cs.1 hs) m W h.2).mono fun e W' ⟨k1, k2⟩ => ⟨k1, h.next k2⟩
  have m3 : Hid (∀ W, Kp w0 m W → Calls Tryz.prog 23 #[.string (tx b), .string (tx (cutD 64 s).2.1)] W fun e W' => e = .returned (.bool (matchL b (cutD 64 s).2.1)) ∧ Kp w0 m W') := fun W h => (match_any _ _ hb (Nat.le_trans cs.1 hs) m W h.2).mono fun e W' ⟨k1, k2⟩ => ⟨k1, h.next k2⟩
  have b1 := hide (below_kp w0 (cutD 64 s).2.1 (trimD b) (Nat.le_trans cs.1 hs) (Nat.le_trans ct hb) m)
  clear cs cb ct hb hs
  generalize hasMailL b s = R at hR ⊢
  generalize matchL (cutD 64 b).2.1 (cutD 64 s).2.1 = x1 at *
  generalize matchL (trimD b) (cutD 64 s).2.1 = x2 at *
  generalize matchL b (cutD 64 s).2.1 = x3 at *
  generalize belB (cutD 64 s).2.1 (trimD b) = x4 at *
  generalize Lib.hasPrefix b [46] = x5 at *
  generalize (cutD 64 b).2.2 = x6 at *
  generalize (cutD 64 s).2.2 = x7 at *
  generalize tx (cutD 64 s).1 = ls at *
  generalize tx (cutD 64 b).1 = lb at *
  generalize tx (cutD 64 s).2.1 = hs at *
  generalize tx (cutD 64 b).2.1 = hb at *
  generalize tx (trimD b) = td at *
  generalize tx s = S at *
  generalize tx b = B at *
  cases x6 with
  | true =>
    cases hq : (ls.toList == lb.toList) with
    | true =>
      have hF : Hid (R = x1) := by unfold Hid; rw [hR.out, hq]; simp
      clear hR
      go_enter Tryz.func98, Tryz.ntmps98
      go_wp2_with fail
      refine (d1.out _ hm).mono ?_
      rintro e w1 ⟨rfl, K1⟩
      go_wp2_with fail
      refine (d2.out _ K1).mono ?_
      rintro e w2 ⟨rfl, K2⟩
      go_wp2_with fail
      refine (m1.out _ K2).mono ?_
      rintro e w3 ⟨rfl, K3⟩
      go_wp2
      go_ret
      exact ⟨by rw [hF.out]; rfl, K3⟩
    | false =>
      have hF : Hid (R = false) := by unfold Hid; rw [hR.out, hq]; simp
      clear hR
      go_enter Tryz.func98, Tryz.ntmps98
      go_wp2_with fail
      refine (d1.out _ hm).mono ?_
      rintro e w1 ⟨rfl, K1⟩
      go_wp2_with fail
      refine (d2.out _ K1).mono ?_
      rintro e w2 ⟨rfl, K2⟩
      go_wp2
      go_ret
      exact ⟨by rw [hF.out]; rfl, K2⟩
  | false =>
    cases x5 with
    | true =>
      have hF : Hid (R = (x4 && !x2)) := by unfold Hid; rw [hR.out]; simp
      clear hR
      cases x4 with
      | false =>
        go_enter Tryz.func98, Tryz.ntmps98
        go_wp2_with fail
        refine (d1.out _ hm).mono ?_
        rintro e w1 ⟨rfl, K1⟩
        go_wp2_with fail
        refine (d2.out _ K1).mono ?_
        rintro e w2 ⟨rfl, K2⟩
        go_wp2_with fail
        refine (d3.out _).mono ?_
        rintro e w3 ⟨rfl, rfl⟩
        go_wp2_with fail
        refine (b1.out _ K2).mono ?_
        rintro e w4 ⟨rfl, K4⟩
        go_wp2
        go_ret
        exact ⟨by rw [hF.out]; rfl, K4⟩
      | true =>
        go_enter Tryz.func98, Tryz.ntmps98
        go_wp2_with fail
        refine (d1.out _ hm).mono ?_
        rintro e w1 ⟨rfl, K1⟩
        go_wp2_with fail
        refine (d2.out _ K1).mono ?_
        rintro e w2 ⟨rfl, K2⟩
        go_wp2_with fail
        refine (d3.out _).mono ?_
        rintro e w3 ⟨rfl, rfl⟩
        go_wp2_with fail
        refine (b1.out _ K2).mono ?_
        rintro e w4 ⟨rfl, K4⟩
        go_wp2_with fail
        refine (m2.out _ K4).mono ?_
        rintro e w5 ⟨rfl, K5⟩
        go_wp2
        go_ret
        exact ⟨by rw [hF.out]; rfl, K5⟩
    | false =>
      have hF : Hid (R = x3) := by unfold Hid; rw [hR.out]; simp
      clear hR
      go_enter Tryz.func98, Tryz.ntmps98
      go_wp2_with fail
      refine (d1.out _ hm).mono ?_
      rintro e w1 ⟨rfl, K1⟩
      go_wp2_with fail
      refine (d2.out _ K1).mono ?_
      rintro e w2 ⟨rfl, K2⟩
      go_wp2_with fail
      refine (d3.out _).mono ?_
      rintro e w3 ⟨rfl, rfl⟩
      go_wp2_with fail
      refine (m3.out _ K2).mono ?_
      rintro e w4 ⟨rfl, K4⟩
      go_wp2
      go_ret
      exact ⟨by rw [hF.out]; rfl, K4⟩

end Go.Proofs.YtcbcdfdicefkoaaGreatDoor

namespace Go.Proofs.YtcbcdfdicefkoaaGreatDoor
open Go.RowKit Go.Shelf Go.IntWalk

def bitB (l : List UInt8) (i : Nat) : Bool := decide ((l.getD (i / 8) 0).toNat / 2 ^ (7 - i % 8) % 2 = 1)

set_option maxRecDepth 100000 in
theorem and_one (n : Nat) (h : n < 256) : bits .and .u8 (n : Int) 1 = ((n % 2 : Nat) : Int) := (show ∀ k : Fin 256, bits .and .u8 ((k.val : Nat) : Int) 1 = ((k.val % 2 : Nat) : Int) by decide +kernel) ⟨n, h⟩
theorem get_tx (l : List UInt8) (k : Nat) (h : k < (tx l).size) : (tx l)[k]'h = l.getD k 0 := by
  have h2 : k < l.length := by rw [tx_size] at h; exact h
  rw [List.getD, List.getElem?_eq_getElem h2]
  rfl
theorem bit_fact (l : List UInt8) (i : Nat) (h : i / 8 < (tx l).size) : (bits .and .u8 ((((tx l)[i / 8]'h).toNat : Int) / 2 ^ (7 - i % 8)) 1 == 1) = bitB l i := by
  rw [get_tx]
  unfold bitB
  generalize hx : (l.getD (i / 8) 0).toNat = x
  have hx2 : x < 256 := by rw [← hx]; exact (l.getD (i / 8) 0).toNat_lt
  have e : ((x : Int) / 2 ^ (7 - i % 8)) = ((x / 2 ^ (7 - i % 8) : Nat) : Int) := by push_cast; rfl
  have hle : x / 2 ^ (7 - i % 8) ≤ x := Nat.div_le_self _ _
  rw [e, and_one _ (by omega)]
  generalize x / 2 ^ (7 - i % 8) = y
  rw [Bool.eq_iff_iff]
  simp
  omega
set_option maxRecDepth 100000 in
theorem bit_any (l : List UInt8) (i : Nat) (hi : i < 8 * l.length) (hl : l.length ≤ 1048576) (w : World) :
    Calls Tryz.prog 128 #[.string (tx l), .int .i64 i] w fun e w' => e = .returned (.bool (bitB l i)) ∧ w' = w := by
  have hz := tx_size l
  have h1 : i / 8 < (tx l).size := by rw [hz]; omega
  have h2 : ((i / 8 : Nat) : Int) < ((tx l).size : Int) := by omega
  have h3 : (i : Int) ≤ 8388608 := by omega
  go_enter Tryz.func128, Tryz.ntmps128
  go_wp2
  go_ret
  exact ⟨by rw [← bit_fact l i h1]; rfl, rfl⟩

end Go.Proofs.YtcbcdfdicefkoaaGreatDoor

namespace Go.Proofs.YtcbcdfdicefkoaaGreatDoor
open Go.RowKit Go.IntWalk

theorem Tryz.infoS : (Tryz.prog.info? 9).map (fun i => (i.zero, i.size, i.bytes)) = some (some (.string ⟨#[]⟩), 1, 16) := by kernel_rfl

/-- A row of strings that the call owns. -/
def OwnS (w : World) (base : Nat) (v : Value) (ss : List ByteArray) : Prop := w.ownsRow base 9 1 v ss.length (ss.map Value.string)

theorem OwnS.nil (w : World) (base : Nat) : OwnS w base (.slice none 0 0) [] := World.ownsRow_nil _ _ _ _

theorem OwnS.split {w : World} {base : Nat} {v : Value} {ss : List ByteArray} (h : OwnS w base v ss) :
    (v = .slice none 0 0 ∧ ss = []) ∨ ∃ g cap, v = .slice (some ⟨g, 0, none⟩) ss.length cap ∧ base ≤ g ∧ g < w.heap.size ∧ ss.length ≤ cap ∧ cap ≤ maxLen := by
  rcases own_split h with ⟨h1, _, h3⟩ | h
  · exact .inl ⟨h1, by simpa using h3⟩
  · exact .inr h

theorem OwnS.lt {w : World} {base : Nat} {v : Value} {ss : List ByteArray} (h : OwnS w base v ss) : ∀ k, v.ownBlock = some k → base ≤ k ∧ k < w.heap.size := World.ownsRow.lt h

theorem OwnS.belowA {w w' : World} {base : Nat} {v : Value} {ss : List ByteArray} (h : OwnS w base v ss) (hb : Below w.heap.size w w') : OwnS w' base v ss := by
  have hlt := h.lt
  obtain ⟨hl, h⟩ := h
  refine ⟨hl, ?_⟩
  rcases h with h | ⟨g, cap, cur, rfl, hbg, hh, r⟩
  · exact .inl h
  · exact .inr ⟨g, cap, cur, rfl, hbg, by rw [hb.block g (hlt g rfl).2]; exact hh, r⟩

theorem OwnS.alloc {w : World} {base : Nat} {v : Value} {ss : List ByteArray} (h : OwnS w base v ss) (o : Obj) : OwnS (w.alloc o) base v ss := World.ownsRow.alloc h o

theorem OwnS.heap {w w' : World} {base : Nat} {v : Value} {ss : List ByteArray} (h : OwnS w base v ss) (e : w'.heap = w.heap) : OwnS w' base v ss := by
  obtain ⟨hl, h⟩ := h
  refine ⟨hl, ?_⟩
  rcases h with h | ⟨g, cap, cur, rfl, hbg, hh, r⟩
  · exact .inl h
  · exact .inr ⟨g, cap, cur, rfl, hbg, by rw [e]; exact hh, r⟩

theorem OwnS.cells {w : World} {base g n cap : Nat} {ss : List ByteArray} (h : OwnS w base (.slice (some ⟨g, 0, none⟩) n cap) ss) :
    ∀ (j : Nat) x, ss[j]? = some x → w.cell? ⟨g, 0 + j, none⟩ = some (.string x) := by
  intro j x hj
  have h1 := World.ownsRow.cells h (g := g) rfl j (.string x) (by simp [hj])
  rw [add_none] at h1
  exact h1

/-- 'append(l, s)'. -/
theorem wpList_appS {ops : Array Oper} {rest : List Oper} {o : Oper} {a : Act} {Q : Exit → Act → World → Prop} (w : World) (hgd : o.guard = none) (s x : Operand)
    (ho : o.op = .call { callee := .builtin .append, args := #[s, x], argTypes := #[47, 47] })
    (base : Nat) (v : Value) (ss : List ByteArray) (hs : a.eval s = v) (hown : OwnS w base v ss) (b : Nat) (z : ByteArray) (hx : a.eval x = .slice (some ⟨b, 0, none⟩) 1 1) (hcell : w.cell? ⟨b, 0, none⟩ = some (.string z))
    (t : Nat) (ht : ss.length + 1 = t) (hb : t ≤ 4000000000) (hbase : base ≤ w.heap.size)
    (h : ∀ g c' w', OwnS w' base (.slice (some ⟨g, 0, none⟩) t c') (ss ++ [z]) → base ≤ g → g < w'.heap.size → t ≤ c' → c' ≤ maxLen → w.grownBy w' v.ownBlock → wpList Tryz.prog ops Q rest (a.put o.dst (.slice (some ⟨g, 0, none⟩) t c')) w') :
    wpList Tryz.prog ops Q (o :: rest) a w := by
  obtain ⟨i0, hi, hz0, hz1, hz2⟩ := info_parts Tryz.infoS
  refine wpList_append_own w hgd s x 47 ho base 9 i0 (.string ⟨#[]⟩) 1 16 Tryz.underlying47 hi hz0 hz1 hz2 rfl (by decide) v _ _ hs hown ⟨b, 0, none⟩ 1 1 [.string z] hx rfl ?_ (by simp; rfl) (by unfold maxLen; omega) (by omega) hbase ?_
  · intro j u hj
    match j, hj with
    | 0, hj => simp at hj; subst hj; rw [add_none]; exact hcell
  · intro v' w' h1 h2 h3
    have h1' : OwnS w' base v' (ss ++ [z]) := by unfold OwnS; rw [List.length_append, List.map_append]; exact h1
    rcases h1'.split with ⟨hv, hx'⟩ | ⟨g, c', hv, hb', hl', hc', hm'⟩
    · simp at hx'
    · have e : (ss ++ [z]).length = t := by rw [List.length_append]; exact ht
      rw [e] at hv hc'
      subst hv
      exact h g c' w' h1' hb' hl' hc' hm' h2

end Go.Proofs.YtcbcdfdicefkoaaGreatDoor

namespace Go.Proofs.YtcbcdfdicefkoaaGreatDoor
open Go.RowKit Go.IntWalk

def ltN (n : Nat) : Bool := decide (97 ≤ n ∧ n ≤ 122) || decide (65 ≤ n ∧ n ≤ 90)
theorem plN_split (n : Nat) : plN n = (ltN n || digN n) := by unfold plN ltN; cases digN n <;> simp [Bool.or_comm]


-- digit: the function; digN: what it answers; decide (48 ≤ b ∧ b ≤ 57): the same written out
set_option maxRecDepth 100000 in
set_option maxHeartbeats 1000000 in
theorem digit_any (b : Nat) (w : World) :
    Calls Tryz.prog 64 #[.int .u8 b] w fun e w' => e = .returned (.bool (digN b)) ∧ w' = w := by
  have hP : Hid (digN b = (decide (48 ≤ b ∧ b ≤ 57))) := rfl
  generalize digN b = R at hP ⊢
  go_enter Tryz.func64, Tryz.ntmps64
  go_wp2
  all_goals go_ret
  all_goals refine ⟨?_, rfl⟩
  all_goals rw [hP.out]
  all_goals show Ending.returned (Value.bool _) = Ending.returned (Value.bool _)
  all_goals congr 1
  all_goals congr 1
  all_goals rw [Bool.eq_iff_iff]
  all_goals simp
  all_goals omega

-- letter: the function; ltN: what it answers; decide (97 ≤ b ∧ b ≤ 122) || decide (65 ≤ b ∧ b ≤ 90): the same written out
set_option maxRecDepth 100000 in
set_option maxHeartbeats 1000000 in
theorem letter_any (b : Nat) (w : World) :
    Calls Tryz.prog 66 #[.int .u8 b] w fun e w' => e = .returned (.bool (ltN b)) ∧ w' = w := by
  have hP : Hid (ltN b = (decide (97 ≤ b ∧ b ≤ 122) || decide (65 ≤ b ∧ b ≤ 90))) := rfl
  generalize ltN b = R at hP ⊢
  go_enter Tryz.func66, Tryz.ntmps66
  go_wp2
  all_goals go_ret
  all_goals refine ⟨?_, rfl⟩
  all_goals rw [hP.out]
  all_goals show Ending.returned (Value.bool _) = Ending.returned (Value.bool _)
  all_goals congr 1
  all_goals congr 1
  all_goals rw [Bool.eq_iff_iff]
  all_goals simp
  all_goals omega

set_option maxRecDepth 100000 in
set_option maxHeartbeats 4000000 in
theorem refIsLabel_any (s : ByteArray) (hs : s.size ≤ 140737488355328) (w : World) :
    Calls Tryz.prog 63 #[.string s] w fun e w' => e = .returned (.bool (labL s.data.toList)) ∧ w' = w := by
  have hsl := sizeH_len s
  by_cases h0 : s.size = 0
  · have hP : Hid (labL s.data.toList = false) := by unfold Hid labL; rw [hsl, h0]; rfl
    have h0I : (s.size : Int) < 1 := by omega
    replace h0 := hide h0
    go_enter Tryz.func63, Tryz.ntmps63
    go_wp2
    go_ret
    exact ⟨by rw [hP.out]; rfl, rfl⟩
  have h0I : ¬ (s.size : Int) < 1 := by omega
  by_cases h1 : s.size ≤ 63
  · have h1I : ¬ (63 : Int) < (s.size : Int) := by omega
    have hR : Hid (labL s.data.toList = allP (labP s.size) 0 s.data.toList) := by unfold Hid labL; rw [hsl, decide_eq_true (by omega), decide_eq_true h1]; rfl
    have HE : Hid (∀ k : Nat, s.size ≤ k → allP (labP s.size) k (s.data.toList.drop k) = true) := fun k hk => by rw [List.drop_eq_nil_of_le (by rw [sizeH_len]; omega)]; rfl
    have HS : Hid (∀ (k : Nat) (hk : k < s.size), allP (labP s.size) k (s.data.toList.drop k) = (labP s.size k (s[k]'hk).toNat && allP (labP s.size) (k + 1) (s.data.toList.drop (k + 1)))) := fun k hk => by
      rw [allP_at _ _ k (by rw [sizeH_len]; exact hk), getH_list s k hk]
    clear hsl
    go_enter Tryz.func63, Tryz.ntmps63
    go_wp2
    go_loop [3] (fun i => ∃ k : Nat, i = .int .i64 k ∧ k ≤ s.size ∧ Hid (allP (labP s.size) 0 s.data.toList = allP (labP s.size) k (s.data.toList.drop k))) (fun i => s.size - (intOf i).toNat)
    case atStart => exact ⟨0, rfl, Nat.zero_le _, rfl⟩
    case round =>
      obtain ⟨k, rfl, hk, hE⟩ := hrel
      by_cases hlt : k < s.size
      · have hltI : (k : Int) < (s.size : Int) := by omega
        have hlt0 := hide (fun W => letter_any (s[k]'hlt).toNat W)
        have hdg := hide (fun W => digit_any (s[k]'hlt).toNat W)
        have hpl : labP s.size k (s[k]'hlt).toNat = ((ltN (s[k]'hlt).toNat || digN (s[k]'hlt).toNat) || (decide ((s[k]'hlt).toNat = 45) && (decide (0 < k) && decide (k + 1 < s.size)))) := by unfold labP; rw [plN_split]
        generalize ltN (s[k]'hlt).toNat = L at hlt0 hpl
        generalize digN (s[k]'hlt).toNat = G at hdg hpl
        cases L with
        | true =>
          have hq : Hid (labP s.size k (s[k]'hlt).toNat = true) := by unfold Hid; rw [hpl]; simp
          clear hpl
          have hF : Hid (allP (labP s.size) 0 s.data.toList = allP (labP s.size) (k + 1) (s.data.toList.drop (k + 1))) := by unfold Hid; rw [hE.out, HS.out k hlt, hq.out, Bool.true_and]
          replace hq := True.intro
          go_wp2_with (first | (go_at_call 66; refine (hlt0.out _).mono ?_; rintro e w1 ⟨rfl, hw1⟩; subst hw1) | (go_at_call 64; refine (hdg.out _).mono ?_; rintro e w2 ⟨rfl, hw2⟩; subst hw2))
          go_round
          case rel => exact ⟨k + 1, by simp, by omega, hF⟩
          case measure => simp [intOf]; omega
        | false =>
          cases G with
          | true =>
            have hq : Hid (labP s.size k (s[k]'hlt).toNat = true) := by unfold Hid; rw [hpl]; simp
            clear hpl
            have hF : Hid (allP (labP s.size) 0 s.data.toList = allP (labP s.size) (k + 1) (s.data.toList.drop (k + 1))) := by unfold Hid; rw [hE.out, HS.out k hlt, hq.out, Bool.true_and]
            replace hq := True.intro
            go_wp2_with (first | (go_at_call 66; refine (hlt0.out _).mono ?_; rintro e w1 ⟨rfl, hw1⟩; subst hw1) | (go_at_call 64; refine (hdg.out _).mono ?_; rintro e w2 ⟨rfl, hw2⟩; subst hw2))
            go_round
            case rel => exact ⟨k + 1, by simp, by omega, hF⟩
            case measure => simp [intOf]; omega
          | false =>
            by_cases h45 : (s[k]'hlt).toNat = 45
            · have h45' : (((s[k]'hlt).toNat : Int) != 45) = false := by simp; omega
              by_cases hk0 : k = 0
              · have hk0' : ((k : Int) == 0) = true := by simp; omega
                have hq : Hid (labP s.size k (s[k]'hlt).toNat = false) := by unfold Hid; rw [hpl, decide_eq_false (show ¬ 0 < k by omega)]; simp
                clear hpl h45 hk0
                have hF : Hid (allP (labP s.size) 0 s.data.toList = false) := by unfold Hid; rw [hE.out, HS.out k hlt, hq.out]; rfl
                replace hq := True.intro
                go_wp2_with (first | (go_at_call 66; refine (hlt0.out _).mono ?_; rintro e w1 ⟨rfl, hw1⟩; subst hw1) | (go_at_call 64; refine (hdg.out _).mono ?_; rintro e w2 ⟨rfl, hw2⟩; subst hw2))
                go_ret
                exact ⟨by rw [hR.out, hF.out]; rfl, rfl⟩
              · have hk0' : ((k : Int) == 0) = false := by simp; omega
                by_cases hk1 : k + 1 = s.size
                · have hk1' : ((k : Int) == (s.size : Int) - 1) = true := by simp; omega
                  have hq : Hid (labP s.size k (s[k]'hlt).toNat = false) := by unfold Hid; rw [hpl, decide_eq_false (show ¬ k + 1 < s.size by omega)]; simp
                  clear hpl h45 hk0
                  replace hk1 := hide hk1
                  have hF : Hid (allP (labP s.size) 0 s.data.toList = false) := by unfold Hid; rw [hE.out, HS.out k hlt, hq.out]; rfl
                  replace hq := True.intro
                  go_wp2_with (first | (go_at_call 66; refine (hlt0.out _).mono ?_; rintro e w1 ⟨rfl, hw1⟩; subst hw1) | (go_at_call 64; refine (hdg.out _).mono ?_; rintro e w2 ⟨rfl, hw2⟩; subst hw2))
                  go_ret
                  exact ⟨by rw [hR.out, hF.out]; rfl, rfl⟩
                · have hk1' : ((k : Int) == (s.size : Int) - 1) = false := by simp; omega
                  have hq : Hid (labP s.size k (s[k]'hlt).toNat = true) := by unfold Hid; rw [hpl, decide_eq_true (show k + 1 < s.size by omega), decide_eq_true (show 0 < k by omega), decide_eq_true h45]; rfl
                  clear hpl h45 hk0 hk1
                  have hF : Hid (allP (labP s.size) 0 s.data.toList = allP (labP s.size) (k + 1) (s.data.toList.drop (k + 1))) := by unfold Hid; rw [hE.out, HS.out k hlt, hq.out, Bool.true_and]
                  replace hq := True.intro
                  go_wp2_with (first | (go_at_call 66; refine (hlt0.out _).mono ?_; rintro e w1 ⟨rfl, hw1⟩; subst hw1) | (go_at_call 64; refine (hdg.out _).mono ?_; rintro e w2 ⟨rfl, hw2⟩; subst hw2))
                  go_round
                  case rel => exact ⟨k + 1, by simp, by omega, hF⟩
                  case measure => simp [intOf]; omega
            · have h45' : (((s[k]'hlt).toNat : Int) != 45) = true := by simp; omega
              have hq : Hid (labP s.size k (s[k]'hlt).toNat = false) := by unfold Hid; rw [hpl, decide_eq_false h45]; rfl
              clear hpl h45
              have hF : Hid (allP (labP s.size) 0 s.data.toList = false) := by unfold Hid; rw [hE.out, HS.out k hlt, hq.out]; rfl
              replace hq := True.intro
              go_wp2_with (first | (go_at_call 66; refine (hlt0.out _).mono ?_; rintro e w1 ⟨rfl, hw1⟩; subst hw1) | (go_at_call 64; refine (hdg.out _).mono ?_; rintro e w2 ⟨rfl, hw2⟩; subst hw2))
              go_ret
              exact ⟨by rw [hR.out, hF.out]; rfl, rfl⟩
      · have hltI : ¬ (k : Int) < (s.size : Int) := by omega
        have hF : Hid (allP (labP s.size) 0 s.data.toList = true) := by unfold Hid; rw [hE.out, HE.out k (by omega)]
        go_wp2
        go_ret
        exact ⟨by rw [hR.out, hF.out]; rfl, rfl⟩
  · have h1I : (63 : Int) < (s.size : Int) := by omega
    have hP : Hid (labL s.data.toList = false) := by unfold Hid labL; rw [hsl, decide_eq_false h1, Bool.false_and, Bool.and_false]
    go_enter Tryz.func63, Tryz.ntmps63
    go_wp2
    go_ret
    exact ⟨by rw [hP.out]; rfl, rfl⟩

end Go.Proofs.YtcbcdfdicefkoaaGreatDoor
