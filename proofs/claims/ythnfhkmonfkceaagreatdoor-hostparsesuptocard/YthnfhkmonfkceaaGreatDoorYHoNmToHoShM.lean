/-
  host.isName and host.May: a name's bytes, and whether a general name may be, whole.
  The statement NameOnce: its walk.
  The statement NameBack: its walk.
  The maths of general names as texts, and of texts as general names.
-/
import Derived.Test.YthnfhkmonfkceaaGreatDoorYHoMtToWiHMay
import Derived.Test.YthnfhkmonfkceaaGreatDoorYNmDecW
import Derived.Test.YthnfhkmonfkceaaGreatDoorYNmPrs
import Derived.Laws.StructEq
import Derived.Deep.QuietTactic
import Derived.BigQuiet
namespace Go.Proofs.YthnfhkmonfkceaaGreatDoor
open Go.RowKit Go.Shelf Go.IntWalk

/-- Are these a name's bytes? -/
def wNM (b : List UInt8) : Bool := decide (ansE (nums b) = 0)
theorem ansN_small {xs : List Int} : ∀ x ∈ ansN xs, x.2.size ≤ 1048576 := by
  intro x hx
  unfold ansN at hx
  split at hx
  · cases hx
  · split at hx
    · rename_i h
      unfold okN at h
      rw [Bool.and_eq_true] at h
      have h2 := (name_all h.1).2 x hx
      have := attr_short h2
      omega
    · cases hx

set_option maxRecDepth 100000 in
set_option maxHeartbeats 1000000 in
theorem isNameH_kp (w0 : World) (b : List UInt8) (hb : b.length ≤ 1048576) (m : Int) (w : World) (hm : Kp w0 m w) :
    Calls Tryz.prog 41 #[.string (tx b)] w fun e w' => e = .returned (.bool (wNM b)) ∧ Kp w0 m w' := by
  obtain ⟨cap, w1, hcv, s1, B1⟩ := conv_any (tx b) (by rw [tx_size]; exact hb) w
  have d1 := hide (callsIn_wide.1 (decodeN_in _ _ _ _ w1 s1 (by rw [tx_size]; exact hb)))
  rw [tx_list] at d1
  have HW : Hid (wNM b = decide (ansE (nums b) = 0)) := rfl
  have K1 := hide (hm.next B1)
  clear hm B1 s1
  generalize ansE (nums b) = E at *
  generalize ansN (nums b) = A at *
  go_enter Tryz.func41, Tryz.ntmps41
  go_wp2_with fail
  refine d1.out.mono ?_
  rintro e w2 ⟨a2, m2, c2, rfl, _, B2⟩
  have K2 := hide (K1.out.next B2)
  have hq : (E == 0) = decide (E = 0) := by by_cases h : E = 0 <;> simp [h]
  clear d1 B2 K1
  go_wp2
  go_ret
  exact ⟨by rw [HW.out, ← hq]; rfl, K2.out⟩

def mayG (k : Int) (s : List UInt8) : Bool := hmay k s (wNM s)
theorem mayG_kp (w0 : World) (k : Int) (hk : (Lit.int .i64 k).wf = true) (s : List UInt8) (hs : s.length ≤ 1048576) (m : Int) (w : World) (hm : Kp w0 m w) :
    Calls Tryz.prog 8 #[.agg #[.int .i64 k, .string (tx s)]] w fun e w' => e = .returned (.bool (mayG k s)) ∧ Below w.heap.size w w' ∧ Kp w0 m w' :=
  (hmay_kp w k hk s hs (wNM s) m (fun _ W hW => isNameH_kp w s hs m W hW) w (Kp.refl hm.2)).mono fun _ _ ⟨h1, h2⟩ => ⟨h1, h2.1, hm.own h2⟩

end Go.Proofs.YthnfhkmonfkceaaGreatDoor

namespace Go.Proofs.YthnfhkmonfkceaaGreatDoor
open Go.RowKit Go.IntWalk Go.Shelf

theorem ans_ok {xs : List Int} (h : ansE xs = 0) : nameL (ansN xs) = true ∧ encNC (ansN xs) = xs := by
  unfold ansE at h
  unfold ansN
  by_cases h1 : (oneS xs).2.2 ≠ 0
  · rw [if_pos h1] at h
    exact absurd h h1
  · rw [if_neg h1] at h ⊢
    by_cases hk : okN xs (decN xs) = true
    · rw [if_pos hk]
      unfold okN at hk
      rw [Bool.and_eq_true] at hk
      exact ⟨hk.1, of_decide_eq_true hk.2⟩
    · rw [if_neg hk] at h
      cases h
theorem name_size {n : List (Int × ByteArray)} (h : nameL n = true) : ∀ x ∈ n, x.2.size ≤ 1048576 := fun x hx => by
  have := attr_short ((name_all h).2 x hx)
  omega
theorem encNE_zero {n : List (Int × ByteArray)} (h : nameL n = true) : encNE n = 0 := by rw [encNE_ok, if_pos h]

end Go.Proofs.YthnfhkmonfkceaaGreatDoor

namespace Go.Proofs.YthnfhkmonfkceaaGreatDoor
open Go.RowKit Go.IntWalk Go.Shelf

def neAt (x y : Value) : Sem Value := binOp .neq 67 x y
theorem ne_att (x y : Value) : binOp .neq 67 x y = neAt x y := rfl
attribute [local go_sem ↓] ne_att
set_option maxRecDepth 100000 in
theorem neAt_same (t : Int) (s : ByteArray) (w : World) : (neAt (.agg #[.int .i64 t, .string s]) (.agg #[.int .i64 t, .string s])).run Tryz.prog w = .ok (.bool false) w := by
  have e1 : (t == t) = true := by simp
  have e2 : (s.toList == s.toList) = true := by simp
  unfold neAt
  rw [run_neq_struct]
  go_simp

theorem ans_back {n : List (Int × ByteArray)} (h : nameL n = true) : ansN (encNC n) = n ∧ ansE (encNC n) = 0 := by
  obtain ⟨e1, e2⟩ := enc_parts h
  have h1 : (oneS (encNC n)).2.2 = 0 := by rw [e1, one_putE 48 (by decide) _ e2]
  have h2 : ¬ ((oneS (encNC n)).2.2 ≠ 0) := by simpa using h1
  have h3 : okN (encNC n) (decN (encNC n)) = true := by
    rw [decN_enc h]
    unfold okN
    rw [h]
    simp
  unfold ansN ansE
  rw [if_neg h2, if_neg h2, if_pos h3, if_pos h3]
  exact ⟨decN_enc h, rfl⟩
theorem enc_short {n : List (Int × ByteArray)} (h : nameL n = true) : (encNC n).length ≤ 1048576 := by
  obtain ⟨h1, h2⟩ := name_all h
  obtain ⟨e1, e2⟩ := encR_rows n h2
  obtain ⟨p1, _⟩ := enc_parts h
  rw [p1, ← e1]
  have := putE_len 48 (encR n)
  omega
theorem txT_short {n : List (Int × ByteArray)} (h : nameL n = true) : (txT n).size ≤ 1048576 := by
  unfold txT
  rw [if_pos h]
  have := txU_len h
  show (txU n).toArray.size ≤ _
  simp
  omega

end Go.Proofs.YthnfhkmonfkceaaGreatDoor

namespace Go.Proofs.YthnfhkmonfkceaaGreatDoor
open Go.RowKit Go.IntWalk Go.Shelf

def hexDs : List UInt8 := [48, 49, 50, 51, 52, 53, 54, 55, 56, 57, 97, 98, 99, 100, 101, 102]
def hexC (n : Nat) : UInt8 := hexDs.getD n 0
def hex2 (c : UInt8) : List UInt8 := [hexC (c.toNat / 16), hexC (c.toNat % 16)]
/-- Bytes by two digits each. -/
def hexS : List UInt8 → List UInt8
  | [] => []
  | c :: r => hex2 c ++ hexS r
def wMail : List UInt8 := [101, 109, 97, 105, 108]
def wDns : List UInt8 := [100, 110, 115]
def wName : List UInt8 := [110, 97, 109, 101]
def wIp : List UInt8 := [105, 112]
def wordK (k : Int) : List UInt8 := if k = 1 then wMail else if k = 2 then wDns else if k = 4 then wName else if k = 7 then wIp else []
/-- What stands behind the word. -/
def toldK (k : Int) (b : List UInt8) : List UInt8 := if k = 7 then hexS b else if k = 4 then (txT (ansN (nums b))).data.toList else b
def showL (k : Int) (b : List UInt8) : List UInt8 := wordK k ++ 58 :: toldK k b
def showS (k : Int) (b : List UInt8) : List UInt8 := if mayG k b then showL k b else []
def showE (k : Int) (b : List UInt8) : Int := if mayG k b then 0 else 130

/-- The kind that has a word. -/
def kindU (l : List UInt8) : Int := if l = wMail then 1 else if l = wDns then 2 else if l = wName then 4 else if l = wIp then 7 else 0
/-- A digit's value, to the base 16; below 0: it is none. -/
def nib (x : UInt8) : Int := Lib.indexByte hexDs x
def hbZ (a b : Int) : Int := bits .or .u8 (a % 256 * 16 % 256) (b % 256)
def hbI (a b : Int) : Nat := (hbZ a b).toNat
def rbI (a b : Int) : Nat := ((16 * a + b) % 256).toNat
def unhH : List UInt8 → List UInt8
  | x :: y :: r => UInt8.ofNat (hbI (nib x) (nib y)) :: unhH r
  | _ => []
def unhR : List UInt8 → List UInt8
  | x :: y :: r => UInt8.ofNat (rbI (nib x) (nib y)) :: unhR r
  | _ => []
/-- The bytes of the name that has a text. -/
def nmB (r : List UInt8) : List UInt8 := (strOfNums (encNC (pansN (tx r)))).data.toList
def behK (k : Int) (r : List UInt8) : List UInt8 := if k = 7 then unhH r else if k = 4 then nmB r else r
/-- What general name the program tries for a text. -/
def candH (s : List UInt8) : Int × List UInt8 := (kindU (cutD 58 s).1, behK (kindU (cutD 58 s).1) (cutD 58 s).2.1)
def hdB (h s : List UInt8) : Bool := h.isPrefixOf s
/-- What general name the document tries for a text. -/
def candD (s : List UInt8) : Int × List UInt8 :=
  if hdB (wIp ++ [58]) s then (7, unhR (s.drop 3)) else
  if hdB (wName ++ [58]) s then (if pansE (tx (s.drop 5)) = 0 then (4, nmB (s.drop 5)) else (0, [])) else
  if hdB (wDns ++ [58]) s then (2, s.drop 4) else
  if hdB (wMail ++ [58]) s then (1, s.drop 6) else (0, [])
def okC (s : List UInt8) (c : Int × List UInt8) : Bool := mayG c.1 c.2 && decide (showL c.1 c.2 = s)
def hparG (s : List UInt8) : Int × List UInt8 := if okC s (candH s) then candH s else (0, [])
def hparE (s : List UInt8) : Int := if okC s (candH s) then 0 else 130

theorem hex_nib : ∀ n < 16, nib (hexC n) = (n : Int) := by decide
set_option maxRecDepth 100000 in
theorem hb_val : ∀ a < 16, ∀ b < 16, hbI ((a : Nat) : Int) ((b : Nat) : Int) = 16 * a + b := by decide +kernel
set_option maxRecDepth 100000 in
theorem hb_in : ∀ a < 17, ∀ b < 17, 0 ≤ hbZ ((a : Nat) - 1 : Int) ((b : Nat) - 1 : Int) ∧ hbZ ((a : Nat) - 1 : Int) ((b : Nat) - 1 : Int) < 256 := by decide +kernel
theorem hb_word {a b : Int} (h1 : -1 ≤ a) (h2 : a ≤ 15) (h3 : -1 ≤ b) (h4 : b ≤ 15) : ((UInt8.ofNat (hbI a b)).toNat : Int) = hbZ a b := by
  have h := hb_in (a + 1).toNat (by omega) (b + 1).toNat (by omega)
  have e1 : (((a + 1).toNat : Nat) : Int) - 1 = a := by omega
  have e2 : (((b + 1).toNat : Nat) : Int) - 1 = b := by omega
  rw [e1, e2] at h
  have e3 : (UInt8.ofNat (hbI a b)).toNat = hbI a b % 256 := by simp
  rw [e3]
  unfold hbI
  omega
theorem rb_val : ∀ a < 16, ∀ b < 16, rbI ((a : Nat) : Int) ((b : Nat) : Int) = 16 * a + b := by decide
theorem hex2_back (c : UInt8) : UInt8.ofNat (hbI (nib (hexC (c.toNat / 16))) (nib (hexC (c.toNat % 16)))) = c ∧ UInt8.ofNat (rbI (nib (hexC (c.toNat / 16))) (nib (hexC (c.toNat % 16)))) = c := by
  have hc := c.toNat_lt
  have h1 : c.toNat / 16 < 16 := by omega
  have h2 : c.toNat % 16 < 16 := by omega
  rw [hex_nib _ h1, hex_nib _ h2, hb_val _ h1 _ h2, rb_val _ h1 _ h2]
  have e : 16 * (c.toNat / 16) + c.toNat % 16 = c.toNat := by omega
  rw [e]
  have : UInt8.ofNat c.toNat = c := by simp
  exact ⟨this, this⟩
theorem unh_hex : ∀ b : List UInt8, unhH (hexS b) = b ∧ unhR (hexS b) = b
  | [] => ⟨rfl, rfl⟩
  | c :: r => by
    obtain ⟨i1, i2⟩ := unh_hex r
    obtain ⟨e1, e2⟩ := hex2_back c
    rw [hexS, hex2, List.cons_append, List.cons_append, List.nil_append, unhH, unhR, i1, i2, e1, e2]
    exact ⟨rfl, rfl⟩
theorem unhH_len : ∀ s : List UInt8, (unhH s).length * 2 ≤ s.length
  | [] => Nat.le_refl _
  | [_] => Nat.zero_le _
  | x :: y :: r => by
    have := unhH_len r
    rw [unhH]
    simp only [List.length_cons]
    omega
theorem unhR_len : ∀ s : List UInt8, (unhR s).length * 2 ≤ s.length
  | [] => Nat.le_refl _
  | [_] => Nat.zero_le _
  | x :: y :: r => by
    have := unhR_len r
    rw [unhR]
    simp only [List.length_cons]
    omega
theorem mayG_kinds {k : Int} {b : List UInt8} (h : mayG k b = true) : (k = 1 ∨ k = 2 ∨ k = 4 ∨ k = 7) ∧ (k = 4 → wNM b = true) ∧ (k = 7 → ipL b = true) := by
  unfold mayG hmay at h
  by_cases h1 : k = 1
  · subst h1; exact ⟨.inl rfl, fun e => by omega, fun e => by omega⟩
  by_cases h2 : k = 2
  · subst h2; exact ⟨.inr (.inl rfl), fun e => by omega, fun e => by omega⟩
  by_cases h4 : k = 4
  · subst h4; exact ⟨.inr (.inr (.inl rfl)), fun _ => by simpa using h, fun e => by omega⟩
  by_cases h7 : k = 7
  · subst h7; exact ⟨.inr (.inr (.inr rfl)), fun e => by omega, fun _ => by simpa using h⟩
  rw [if_neg h1, if_neg h2, if_neg h4, if_neg h7] at h
  cases h
theorem cut_word {h r : List UInt8} (hh : 58 ∉ h) : cutD 58 (h ++ 58 :: r) = (h, r, true) := by
  induction h with
  | nil => rfl
  | cons c t ih =>
    have hc : ¬ c = 58 := fun e => hh (by rw [e]; simp)
    have ht : 58 ∉ t := fun e => hh (by simp [e])
    rw [List.cons_append, cutD, if_neg hc, ih ht]
/-- What may be and has this text is what both sides try for it. -/
theorem cand_back {k : Int} {b : List UInt8} (hm : mayG k b = true) : candH (showL k b) = (k, b) ∧ candD (showL k b) = (k, b) := by
  obtain ⟨hk, h4, h7⟩ := mayG_kinds hm
  rcases hk with rfl | rfl | rfl | rfl
  · have e : showL 1 b = wMail ++ 58 :: b := rfl
    have c := cut_word (h := wMail) (r := b) (by decide)
    rw [e]
    refine ⟨?_, ?_⟩
    · unfold candH; rw [c]; rfl
    · rfl
  · have e : showL 2 b = wDns ++ 58 :: b := rfl
    have c := cut_word (h := wDns) (r := b) (by decide)
    rw [e]
    refine ⟨?_, ?_⟩
    · unfold candH; rw [c]; rfl
    · rfl
  · have hN : ansE (nums b) = 0 := of_decide_eq_true (h4 rfl)
    obtain ⟨a1, a2⟩ := ans_ok hN
    obtain ⟨p1, p2⟩ := pans_back a1
    obtain ⟨T, hT⟩ : ∃ T, txT (ansN (nums b)) = T := ⟨_, rfl⟩
    have e : showL 4 b = wName ++ 58 :: T.data.toList := by unfold showL toldK; rw [hT]; rfl
    have c := cut_word (h := wName) (r := T.data.toList) (by decide)
    rw [hT] at p1 p2
    have nb : nmB T.data.toList = b := by
      unfold nmB
      rw [tx_of, p1, a2, nums_text]
    rw [e]
    refine ⟨?_, ?_⟩
    · unfold candH
      rw [c]
      show (kindU wName, behK (kindU wName) T.data.toList) = _
      have : kindU wName = 4 := rfl
      rw [this]
      show (4, nmB T.data.toList) = _
      rw [nb]
    · have : candD (wName ++ 58 :: T.data.toList) = if pansE (tx T.data.toList) = 0 then (4, nmB T.data.toList) else (0, []) := rfl
      rw [this, tx_of, if_pos p2, nb]
  · have e : showL 7 b = wIp ++ 58 :: hexS b := rfl
    have c := cut_word (h := wIp) (r := hexS b) (by decide)
    obtain ⟨u1, u2⟩ := unh_hex b
    rw [e]
    refine ⟨?_, ?_⟩
    · unfold candH
      rw [c]
      show (7, unhH (hexS b)) = _
      rw [u1]
    · show (7, unhR (hexS b)) = _
      rw [u2]
theorem ok_cand {s : List UInt8} {c : Int × List UInt8} (h : okC s c = true) : candH s = c ∧ candD s = c := by
  unfold okC at h
  rw [Bool.and_eq_true, decide_eq_true_eq] at h
  obtain ⟨k, b⟩ := c
  obtain ⟨h1, h2⟩ := h
  have := cand_back h1
  simp only at h2
  rw [h2] at this
  exact this
/-- Both sides tell the same of what they try. -/
theorem cand_both (s : List UInt8) : okC s (candD s) = okC s (candH s) ∧ (okC s (candD s) = true → candD s = candH s) := by
  cases h : okC s (candD s) with
  | true =>
    obtain ⟨e1, e2⟩ := ok_cand h
    rw [e1, h]
    exact ⟨rfl, fun _ => rfl⟩
  | false =>
    refine ⟨?_, fun e => by cases e⟩
    cases h2 : okC s (candH s) with
    | false => rfl
    | true =>
      obtain ⟨e1, e2⟩ := ok_cand h2
      rw [e2, h2] at h
      cases h
theorem hpar_D (s : List UInt8) : hparG s = (if okC s (candD s) then candD s else (0, [])) ∧ hparE s = (if okC s (candD s) then 0 else 130) := by
  obtain ⟨h1, h2⟩ := cand_both s
  unfold hparG hparE
  cases h : okC s (candD s) with
  | true =>
    rw [h] at h1
    rw [← h1, h2 h]
    exact ⟨rfl, rfl⟩
  | false =>
    rw [h] at h1
    rw [← h1]
    exact ⟨rfl, rfl⟩
theorem pans_name (s : ByteArray) : nameL (pansN s) = true := by
  by_cases h : pansE s = 0
  · exact (pans_ok h).1
  · unfold pansE at h
    unfold pansN
    by_cases hs : s = ⟨#[]⟩
    · rw [if_pos hs] at h; exact absurd rfl h
    · rw [if_neg hs] at h ⊢
      by_cases hk : okT s (prsN s.data.toList) = true
      · rw [if_pos hk] at h; exact absurd rfl h
      · rw [if_neg hk]; rfl
theorem nmB_len (r : List UInt8) : (nmB r).length ≤ 1048576 := by
  have h1 := enc_short (pans_name (tx r))
  unfold nmB
  rw [sizeH_len, strOfNums_size]
  exact h1
theorem candH_len {s : List UInt8} (hs : s.length ≤ 1048576) : (candH s).2.length ≤ 1048576 := by
  have h1 := (cutD_rest 58 s).1
  unfold candH behK
  simp only
  split
  · have := unhH_len (cutD 58 s).2.1; omega
  · split
    · exact nmB_len _
    · omega
theorem candD_len {s : List UInt8} (hs : s.length ≤ 1048576) : (candD s).2.length ≤ 1048576 := by
  unfold candD
  have h1 := unhR_len (s.drop 3)
  have h2 := nmB_len (s.drop 5)
  have h3 : (s.drop 3).length ≤ s.length := by simp
  have h4 : (s.drop 4).length ≤ s.length := by simp
  have h6 : (s.drop 6).length ≤ s.length := by simp
  have h0 : ([] : List UInt8).length = 0 := rfl
  repeat' split
  all_goals first | exact h2 | (show (unhR (s.drop 3)).length ≤ _; omega) | (show (s.drop 4).length ≤ _; omega) | (show (s.drop 6).length ≤ _; omega) | (show ([] : List UInt8).length ≤ _; omega)
theorem kindU_wf (l : List UInt8) : (Lit.int .i64 (kindU l)).wf = true := by
  unfold kindU
  repeat' split
  all_goals decide

end Go.Proofs.YthnfhkmonfkceaaGreatDoor
