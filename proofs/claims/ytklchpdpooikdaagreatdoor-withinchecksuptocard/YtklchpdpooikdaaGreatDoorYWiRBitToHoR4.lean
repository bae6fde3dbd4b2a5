/-
  The document's within: bit.
  The document's May of a subtree, and its bits: the maths. No program.
  The document's within: cut.
  Of a subtree's own: the document's reading bit by bit and label by label, and the program's. The maths. No program.
  The document's host: Match.
  The document's host: mail addresses.
-/
import Derived.Test.YtklchpdpooikdaaGreatDoorYWiAll2ToWiMeets
import Derived.Test.YtklchpdpooikdaaGreatDoorYHoNmToWiChkW
import Derived.Laws.BitsAllLaws
import Derived.Test.YtklchpdpooikdaaGreatDoorYHoR3ToHoSm
import Derived.Test.YtklchpdpooikdaaGreatDoorYWiIdxToHoMt
namespace Go.Proofs.YtklchpdpooikdaaGreatDoor
open Go.RowKit Go.Shelf Go.IntWalk

def bitN (l : List UInt8) (i : Nat) : Int := if bitB l i = true then 1 else 0
theorem rbit_fact (l : List UInt8) (i : Nat) (h : i / 8 < (tx l).size) : (wrap64 ((((tx l)[i / 8]'h).toNat : Int) / 2 ^ (7 - i % 8))).tmod 2 = bitN l i := by
  rw [get_tx]
  unfold bitN bitB
  generalize hx : (l.getD (i / 8) 0).toNat = x
  have hx2 : x < 256 := by rw [← hx]; exact (l.getD (i / 8) 0).toNat_lt
  have e : ((x : Int) / 2 ^ (7 - i % 8)) = ((x / 2 ^ (7 - i % 8) : Nat) : Int) := by push_cast; rfl
  have hle : x / 2 ^ (7 - i % 8) ≤ x := Nat.div_le_self _ _
  rw [e]
  generalize x / 2 ^ (7 - i % 8) = y at hle ⊢
  rw [wrap64_in _ ⟨by omega, by omega⟩, Int.tmod_eq_emod_of_nonneg (by omega)]
  split
  · rename_i h9
    have := of_decide_eq_true h9
    omega
  · rename_i h9
    have h8 : ¬ y % 2 = 1 := fun h => h9 (decide_eq_true h)
    omega
set_option maxRecDepth 100000 in
theorem rbit_any (l : List UInt8) (i : Nat) (hi : i < 8 * l.length) (hl : l.length ≤ 1048576) (w : World) :
    Calls Tryz.prog 39 #[.string (tx l), .int .i64 i] w fun e w' => e = .returned (.int .i64 (bitN l i)) ∧ w' = w := by
  have hz := tx_size l
  have h1 : i / 8 < (tx l).size := by rw [hz]; omega
  have h2 : ((i / 8 : Nat) : Int) < ((tx l).size : Int) := by omega
  have h3 : (i : Int) ≤ 8388608 := by omega
  go_enter Tryz.func39, Tryz.ntmps39
  go_wp2
  go_ret
  exact ⟨by rw [← rbit_fact l i h1]; rfl, rfl⟩

end Go.Proofs.YtklchpdpooikdaaGreatDoor

namespace Go.Proofs.YtklchpdpooikdaaGreatDoor

theorem locS_dot (r : List UInt8) : locS true (46 :: r) = false := by
  rw [locS, if_pos rfl]; rfl
theorem mail_dot (r : List UInt8) : mailL (46 :: r) = false := by
  unfold mailL
  rw [cutD, if_neg (by decide), locL_S]
  simp only []
  rw [locS_dot]
  simp
theorem trimD_dot (r : List UInt8) : trimD (46 :: r) = r := by
  unfold trimD Lib.trimPrefix Lib.hasPrefix
  simp [List.isPrefixOf]
theorem trimD_not {b : List UInt8} (h : ∀ r, b ≠ 46 :: r) : trimD b = b := by
  unfold trimD Lib.trimPrefix
  split
  · rename_i hp
    obtain ⟨t, ht⟩ := List.isPrefixOf_iff_prefix.1 hp
    exact absurd ht.symm (h t)
  · rfl
theorem isMail_dot (r : List UInt8) : isMailL (46 :: r) = dnsL r := by
  unfold isMailL
  rw [mail_dot, trimD_dot]; rfl
theorem isMail_not {b : List UInt8} (h : ∀ r, b ≠ 46 :: r) : isMailL b = (mailL b || dnsL b) := by
  unfold isMailL
  rw [trimD_not h]

def badB (A M : List UInt8) (i : Nat) : Bool := (bitB M i && (decide (0 < i) && !bitB M (i - 1))) || (!bitB M i && bitB A i)
theorem bad_ok (A M : List UInt8) (i : Nat) : okB A M i = !badB A M i := by
  unfold okB badB endB
  cases bitB M i <;> cases bitB A i <;> cases decide (0 < i) <;> cases bitB M (i - 1) <;> rfl
theorem bit_take (b : List UInt8) (h i : Nat) (hi : i < 8 * h) : bitB (b.take h) i = bitB b i := by
  unfold bitB
  have hk : i / 8 < h := by omega
  have e : (b.take h).getD (i / 8) 0 = b.getD (i / 8) 0 := by
    simp [List.getD, hk]
  rw [e]

def oneB (b r : List UInt8) : Bool := decide ((labs b).length = (labs r).length + 1) && belB b r
theorem LS_len (a : List UInt8) : (LS a).length = (labs a).length := by
  unfold LS
  have e : labs (smallL a) = (labs a).map smallL := small_labs a []
  rw [e, List.length_map]
theorem one_match {b r : List UInt8} (hw : wildL (42 :: 46 :: r) = true) (hb : dnsL b = true) : oneB b r = matchL (42 :: 46 :: r) b := by
  have hr : dnsL r = true := by
    obtain ⟨r2, e, h, _⟩ := wild_split hw
    have := List.cons.inj (List.cons.inj e).2
    obtain ⟨_, rfl⟩ := this
    exact h
  apply Bool.eq_iff_iff.2
  rw [match_wild hw]
  unfold oneB
  rw [Bool.and_eq_true, decide_eq_true_eq, bel_LS]
  constructor
  · rintro ⟨h1, _, _, h2⟩
    refine ⟨hb, ?_⟩
    obtain ⟨p, hp⟩ := h2
    have hl : p.length = 1 := by
      have h3 := congrArg List.length hp
      rw [List.length_append, LS_len, LS_len] at h3
      omega
    obtain ⟨l, rfl⟩ := List.length_eq_one_iff.1 hl
    exact ⟨l, hp.symm⟩
  · rintro ⟨_, l, h2⟩
    have h3 := congrArg List.length h2
    rw [List.length_cons, LS_len, LS_len] at h3
    exact ⟨h3, hb, hr, ⟨[l], h2.symm⟩⟩

end Go.Proofs.YtklchpdpooikdaaGreatDoor

namespace Go.Proofs.YtklchpdpooikdaaGreatDoor
open Go.RowKit Go.Shelf Go.IntWalk

def cutR (l : List UInt8) : List UInt8 × List UInt8 × Bool := if (cutD 64 l).2.2 = true then cutD 64 l else ([], l, false)
theorem cutD_yes (d : UInt8) : ∀ (l : List UInt8) (k : Nat) (hk : k < l.length), (∀ i (h : i < l.length), i < k → l[i]'h ≠ d) → l[k]'hk = d → cutD d l = (l.take k, l.drop (k + 1), true)
  | c :: r, 0, _, _, h => by
    have h' : c = d := h
    rw [cutD, if_pos h']; rfl
  | c :: r, k + 1, hk, hn, h => by
    have h0 : c ≠ d := hn 0 (by simp) (by omega)
    have ih := cutD_yes d r k (by simpa using hk) (fun i hi hik => hn (i + 1) (by simpa using hi) (by omega)) (by simpa using h)
    rw [cutD, if_neg h0, ih]
    rfl
theorem cutD_never (d : UInt8) : ∀ (l : List UInt8), (∀ i (h : i < l.length), l[i]'h ≠ d) → (cutD d l).2.2 = false
  | [], _ => rfl
  | c :: r, hn => by
    have h0 : c ≠ d := hn 0 (by simp)
    rw [cutD, if_neg h0]
    exact cutD_never d r (fun i hi => hn (i + 1) (by simpa using hi))

set_option maxRecDepth 100000 in
set_option maxHeartbeats 2000000 in
theorem rcut_any (l : List UInt8) (hl : l.length ≤ 1048576) (w : World) :
    Calls Tryz.prog 60 #[.string (tx l)] w fun e w' => e = .returned (.tuple #[.string (tx (cutR l).1), .string (tx (cutR l).2.1), .bool (cutR l).2.2]) ∧ Below w.heap.size w w' := by
  have hz := tx_size l
  obtain ⟨R, hR⟩ : ∃ R, cutR l = R := ⟨_, rfl⟩
  rw [hR]
  have HR := hide hR
  clear hR
  go_enter Tryz.func60, Tryz.ntmps60
  go_wp2
  go_loopw [5] (fun v wr => ∃ k : Nat, v = .int .i64 k ∧ k ≤ l.length ∧ Hid (∀ i (h : i < l.length), i < k → l[i]'h ≠ 64) ∧ Hid (Below w.heap.size w wr)) (fun v _ => l.length - (intOf v).toNat)
  case atStart => exact ⟨0, rfl, Nat.zero_le _, fun i _ h => absurd h (by omega), Below.refl _ _⟩
  case round =>
    obtain ⟨k, rfl, hk, hN, hQ⟩ := hrel
    by_cases hlt : k < l.length
    · have ltI : (k : Int) < (l.length : Int) := by omega
      have kS : k < (tx l).size := by omega
      have hg : (tx l)[k]'kS = l[k]'hlt := rfl
      by_cases hd : l[k]'hlt = 64
      · have hq : (((tx l)[k]'kS).toNat : Int) = 64 := by rw [hg, hd]; rfl
        have hF : Hid (R = (l.take k, l.drop (k + 1), true)) := by
          unfold Hid
          rw [← HR.out]
          unfold cutR
          rw [cutD_yes 64 l k hlt hN.out hd, if_pos rfl]
        have s1 := extract_lo l k
        have s2 := extract_hi l (k + 1)
        have i1 : (k : Int) + 1 ≤ (l.length : Int) := by omega
        clear hg
        go_wp2_with fail
        go_region
        all_goals
          go_wp2
          refine bodyPost_ret (v := .tuple #[.string (tx (l.take k)), .string (tx (l.drop (k + 1))), .bool true]) (by simp [results, Tryz.results60, go_sem]) rfl ⟨by rw [hF.out], hQ.out.drew⟩
      · have hq : ¬ (((tx l)[k]'kS).toNat : Int) = 64 := by
          rw [hg]
          intro h
          exact hd (UInt8.toNat_inj.1 (by have : (64 : UInt8).toNat = 64 := rfl; omega))
        have hN2 : Hid (∀ i (h : i < l.length), i < k + 1 → l[i]'h ≠ 64) := fun i h hi => by
          by_cases hik : i < k
          · exact hN.out i h hik
          · obtain rfl : i = k := by omega
            exact hd
        clear hg
        go_wp2
        go_roundw
        case rel => exact ⟨k + 1, by simp, by omega, hN2, hQ⟩
        case measure => simp [intOf]; omega
    · have ltI : ¬ (k : Int) < (l.length : Int) := by omega
      have hF : Hid (R = ([], l, false)) := by
        unfold Hid
        rw [← HR.out]
        unfold cutR
        rw [cutD_never 64 l (fun i h => hN.out i h (by omega))]
        rfl
      go_wp2
      refine bodyPost_ret (v := .tuple #[.string ⟨#[]⟩, .string (tx l), .bool false]) (by simp [results, Tryz.results60, go_sem]) rfl ⟨by rw [hF.out]; rfl, hQ.out⟩

end Go.Proofs.YtklchpdpooikdaaGreatDoor

namespace Go.Proofs.YtklchpdpooikdaaGreatDoor

theorem byte_mask (x m a : Nat) (hx : x < 256) (ha : a < 256) (hA : ∀ j, j < 8 → a.testBit j = true → m.testBit j = true) : (x &&& m = a) ↔ ∀ j, j < 8 → m.testBit j = true → x.testBit j = a.testBit j := by
  constructor
  · rintro rfl j _ hj
    rw [Nat.testBit_and, hj, Bool.and_true]
  · intro h
    refine Nat.eq_of_testBit_eq fun j => ?_
    rw [Nat.testBit_and]
    by_cases hj : j < 8
    · cases hmj : m.testBit j with
      | true => rw [h j hj hmj, Bool.and_true]
      | false =>
        rw [Bool.and_false]
        cases haj : a.testBit j with
        | false => rfl
        | true => rw [hA j hj haj] at hmj; cases hmj
    · have h8 : 2 ^ 8 ≤ 2 ^ j := Nat.pow_le_pow_right (by decide) (by omega)
      have e1 : x.testBit j = false := Nat.testBit_lt_two_pow (by omega)
      have e2 : a.testBit j = false := Nat.testBit_lt_two_pow (by omega)
      rw [e1, e2, Bool.false_and]
theorem bitB_test (l : List UInt8) (j r : Nat) (hr : r < 8) : bitB l (8 * j + r) = (l.getD j 0).toNat.testBit (7 - r) := by
  unfold bitB
  rw [show (8 * j + r) / 8 = j by omega, show (8 * j + r) % 8 = r by omega, Nat.testBit_eq_decide_div_mod_eq]

def lieB (A M s : List UInt8) (i : Nat) : Bool := !(bitB M i && (bitB s i != bitB A i))
def lieG (A M s : List UInt8) : Nat → Nat → Bool
  | _, 0 => true
  | i, n + 1 => lieB A M s i && lieG A M s (i + 1) n
theorem lie_all (A M s : List UInt8) : ∀ n i, lieG A M s i n = true ↔ ∀ j, i ≤ j → j < i + n → lieB A M s j = true
  | 0, i => ⟨fun _ j h1 h2 => by omega, fun _ => rfl⟩
  | n + 1, i => by
    rw [lieG, Bool.and_eq_true, lie_all A M s n (i + 1)]
    constructor
    · rintro ⟨h1, h2⟩ j hj hj2
      by_cases e : j = i
      · rw [e]; exact h1
      · exact h2 j (by omega) (by omega)
    · intro h
      exact ⟨h i (Nat.le_refl _) (by omega), fun j h1 h2 => h j (by omega) (by omega)⟩
theorem ad_all (A M s : List UInt8) : ∀ n i, adG A M s i n = true ↔ ∀ j, i ≤ j → j < i + n → mskB A M s j = true
  | 0, i => ⟨fun _ j h1 h2 => by omega, fun _ => rfl⟩
  | n + 1, i => by
    rw [adG, Bool.and_eq_true, ad_all A M s n (i + 1)]
    constructor
    · rintro ⟨h1, h2⟩ j hj hj2
      by_cases e : j = i
      · rw [e]; exact h1
      · exact h2 j (by omega) (by omega)
    · intro h
      exact ⟨h i (Nat.le_refl _) (by omega), fun j h1 h2 => h j (by omega) (by omega)⟩
theorem net_all (A M : List UInt8) : ∀ n i, netG A M i n = true → ∀ j, i ≤ j → j < i + n → okB A M j = true
  | 0, i, _, j, h1, h2 => by omega
  | n + 1, i, h, j, h1, h2 => by
    rw [netG, Bool.and_eq_true] at h
    by_cases e : j = i
    · rw [e]; exact h.1
    · exact net_all A M n (i + 1) h.2 j (by omega) (by omega)
theorem msk_bits (A M s : List UInt8) (j : Nat) (hA : ∀ r, r < 8 → bitB A (8 * j + r) = true → bitB M (8 * j + r) = true) : mskB A M s j = true ↔ ∀ r, r < 8 → lieB A M s (8 * j + r) = true := by
  have hx := (s.getD j 0).toNat_lt
  have hm := (M.getD j 0).toNat_lt
  have ha := (A.getD j 0).toNat_lt
  have key := byte_mask (s.getD j 0).toNat (M.getD j 0).toNat (A.getD j 0).toNat hx ha (fun t ht h => by
    have h2 := hA (7 - t) (by omega)
    rw [bitB_test A j (7 - t) (by omega), bitB_test M j (7 - t) (by omega), show 7 - (7 - t) = t by omega] at h2
    exact h2 h)
  have e : mskB A M s j = true ↔ ((s.getD j 0).toNat &&& (M.getD j 0).toNat) = (A.getD j 0).toNat := by
    unfold mskB
    rw [u8_and_nat _ _ hx hm, beq_iff_eq]
    constructor
    · intro h; omega
    · intro h; rw [h]
  rw [e, key]
  constructor
  · intro h r hr
    have h2 := h (7 - r) (by omega)
    unfold lieB
    rw [bitB_test M j r hr, bitB_test s j r hr, bitB_test A j r hr]
    cases hmr : (M.getD j 0).toNat.testBit (7 - r) with
    | false => rfl
    | true => rw [h2 hmr]; simp
  · intro h t ht hmt
    have h2 := h (7 - t) (by omega)
    unfold lieB at h2
    rw [bitB_test M j (7 - t) (by omega), bitB_test s j (7 - t) (by omega), bitB_test A j (7 - t) (by omega), show 7 - (7 - t) = t by omega, hmt] at h2
    simpa using h2
theorem lie_ad {A M s : List UInt8} {n : Nat} (h : netG A M 0 (8 * n) = true) : lieG A M s 0 (8 * n) = adG A M s 0 n := by
  have hok := net_all A M (8 * n) 0 h
  have hA : ∀ j, j < n → ∀ r, r < 8 → bitB A (8 * j + r) = true → bitB M (8 * j + r) = true := fun j hj r hr h1 => by
    have h2 := hok (8 * j + r) (Nat.zero_le _) (by omega)
    unfold okB at h2
    rw [h1] at h2
    cases hq : bitB M (8 * j + r) with
    | true => rfl
    | false => rw [hq] at h2; simp at h2
  apply Bool.eq_iff_iff.2
  rw [lie_all, ad_all]
  constructor
  · intro h1 j _ hj
    rw [msk_bits A M s j (hA j (by omega))]
    exact fun r hr => h1 (8 * j + r) (Nat.zero_le _) (by omega)
  · intro h1 i _ hi
    have h2 := (msk_bits A M s (i / 8) (hA (i / 8) (by omega))).1 (h1 (i / 8) (Nat.zero_le _) (by omega)) (i % 8) (by omega)
    rw [show 8 * (i / 8) + i % 8 = i by omega] at h2
    exact h2

theorem bel_strict {a d : List UInt8} (h : belB a d = true) : belB d a = matchL d a := by
  rw [bel_LS] at h
  obtain ⟨ha, hd, hs⟩ := h
  apply Bool.eq_iff_iff.2
  rw [match_dns hd, bel_LS]
  constructor
  · rintro ⟨_, _, h2⟩
    refine ⟨ha, ?_⟩
    exact hs.eq_of_length (Nat.le_antisymm hs.length_le h2.length_le)
  · rintro ⟨_, h2⟩
    exact ⟨hd, ha, by rw [h2]; exact List.suffix_refl _⟩
theorem cutR_yes {s : List UInt8} (h : (cutD 64 s).2.2 = true) : cutR s = cutD 64 s := by unfold cutR; rw [if_pos h]
theorem cutR_no {s : List UInt8} (h : (cutD 64 s).2.2 = false) : cutR s = ([], s, false) := by unfold cutR; rw [if_neg (by rw [h]; decide)]

end Go.Proofs.YtklchpdpooikdaaGreatDoor

namespace Go.Proofs.YtklchpdpooikdaaGreatDoor
open Go.RowKit Go.IntWalk

theorem eq_toList (a b : List UInt8) : ((tx a).toList == (tx b).toList) = decide (a = b) := by
  rw [Lib.toList_data, Lib.toList_data, tx_list, tx_list]
  rw [Bool.eq_iff_iff]
  simp

set_option maxRecDepth 100000 in
set_option maxHeartbeats 4000000 in
theorem refMatch_any (p s : List UInt8) (hp : p.length ≤ 1048576) (hs : s.length ≤ 1048576) (w : World) :
    Calls Tryz.prog 61 #[.string (tx p), .string (tx s)] w fun e w' => e = .returned (.bool (matchL p s)) ∧ Below w.heap.size w w' := by
  have hM : Hid (matchL p s = (dnsL s && (if dnsL p = true then Lib.equalFold p s else wildL p && Lib.equalFold (behL p) (behL s)))) := rfl
  have d1 := hide (fun W => refDNS_any (tx s) (by rw [tx_size]; exact hs) W)
  have d2 := hide (fun W => refDNS_any (tx p) (by rw [tx_size]; exact hp) W)
  have d3 := hide (fun W => refWild_any p hp W)
  have d4 := hide (fun W => refSmall_any (tx p) (by rw [tx_size]; exact hp) W)
  have d5 := hide (fun W => refSmall_any (tx s) (by rw [tx_size]; exact hs) W)
  have l4 := hide (fun W => refLabels_any (tx (smallL p)) (by rw [tx_size, smallH_len]; exact hp) W)
  have l5 := hide (fun W => refLabels_any (tx (smallL s)) (by rw [tx_size, smallH_len]; exact hs) W)
  have hln : Hid ((labs (smallL p)).length ≤ 1048577) := by unfold Hid; have := labsG_len (smallL p) []; rw [smallH_len] at this; unfold labs; omega
  have hft := hide (fun h : wildL p = true => fold_tail (s := s) h)
  rw [tx_list] at d1 d2 d4 d5 l4 l5
  rw [fold_small p s] at hM
  have hpe := hide (eq_toList (smallL p) (smallL s))
  have htx := hide (fun a b => eq_toList a b)
  generalize dnsL s = b1 at *
  generalize dnsL p = b2 at *
  generalize wildL p = b3 at *
  cases b1 with
  | false =>
    have hR : Hid (matchL p s = false) := hM.out
    go_enter Tryz.func61, Tryz.ntmps61
    go_wp2_with (go_at_call 35; refine (d1.out _).mono ?_; rintro e w1 ⟨rfl, B1⟩)
    go_ret
    exact ⟨by rw [hR.out]; rfl, B1⟩
  | true =>
    cases b2 with
    | true =>
      have hR : Hid (matchL p s = decide (smallL p = smallL s)) := hM.out
      have hq := hpe.out
      generalize smallL p = sp at *
      generalize smallL s = ss at *
      generalize decide (sp = ss) = q at hq hR
      go_enter Tryz.func61, Tryz.ntmps61
      go_wp2_with (first | (go_at_call 35; refine (d2.out w1).mono ?_; rintro e w2 ⟨rfl, B2⟩) | (go_at_call 35; refine (d1.out _).mono ?_; rintro e w1 ⟨rfl, B1⟩) | (go_at_call 63; refine (d5.out w3).mono ?_; rintro e w4 ⟨rfl, B4⟩) | (go_at_call 63; refine (d4.out w2).mono ?_; rintro e w3 ⟨rfl, B3⟩))
      go_ret
      exact ⟨by rw [hR.out]; rfl, ((B1.trans (B2.mono B1.size)).trans (B3.mono (Nat.le_trans B1.size B2.size))).trans (B4.mono (Nat.le_trans (Nat.le_trans B1.size B2.size) B3.size))⟩
    | false =>
      cases b3 with
      | false =>
        have hR : Hid (matchL p s = false) := hM.out
        go_enter Tryz.func61, Tryz.ntmps61
        go_wp2_with (first | (go_at_call 35; refine (d2.out w1).mono ?_; rintro e w2 ⟨rfl, B2⟩) | (go_at_call 35; refine (d1.out _).mono ?_; rintro e w1 ⟨rfl, B1⟩) | (go_at_call 36; refine (d3.out _).mono ?_; rintro e w3 ⟨rfl, B3⟩))
        go_ret
        exact ⟨by rw [hR.out]; rfl, (B1.trans (B2.mono B1.size)).trans (B3.mono (Nat.le_trans B1.size B2.size))⟩
      | true =>
        have hR : Hid (matchL p s = decide ((labs (smallL p)).length = (labs (smallL s)).length ∧ (labs (smallL p)).drop 1 = (labs (smallL s)).drop 1)) := by unfold Hid; rw [hM.out, ← hft.out rfl]; rfl
        have hpos : Hid (0 < (labs (smallL p)).length) := List.length_pos_iff.2 (labsG_ne _ _)
        generalize labs (smallL p) = LA at *
        generalize labs (smallL s) = LB at *
        generalize smallL p = sp at *
        generalize smallL s = ss at *
        clear hft hpe
        by_cases hle : LA.length = LB.length
        · have hleI : ((LA.length : Int) != (LB.length : Int)) = false := by simp; omega
          have hR2 : Hid (matchL p s = decide (LA.drop 1 = LB.drop 1)) := by unfold Hid; rw [hR.out]; exact decide_eq_decide.2 ⟨fun h => h.2, fun h => ⟨hle, h⟩⟩
          go_enter Tryz.func61, Tryz.ntmps61
          go_wp2_with (first | (go_at_call 35; refine (d2.out w1).mono ?_; rintro e w2 ⟨rfl, B2⟩) | (go_at_call 35; refine (d1.out _).mono ?_; rintro e w1 ⟨rfl, B1⟩) | (go_at_call 36; refine (d3.out _).mono ?_; rintro e w3 ⟨rfl, B3⟩) | (go_at_call 63; refine (d5.out w5).mono ?_; rintro e w6 ⟨rfl, B6⟩) | (go_at_call 63; refine (d4.out w3).mono ?_; rintro e w4 ⟨rfl, B4⟩) | (go_at_call 41; refine (l5.out w6).mono ?_; rintro e w7 ⟨aB, cB, rfl, oB, B7⟩) | (go_at_call 41; refine (l4.out w4).mono ?_; rintro e w5 ⟨aA, cA, rfl, oA, B5⟩))
          have BB : Below w.heap.size w w7 := by
            have s1 := B1.size
            have s2 := B2.size
            have s3 := B3.size
            have s4 := B4.size
            have s5 := B5.size
            have s6 := B6.size
            exact (((((B1.trans (B2.mono s1)).trans (B3.mono (by omega))).trans (B4.mono (by omega))).trans (B5.mono (by omega))).trans (B6.mono (by omega))).trans (B7.mono (by omega))
          have oA7 := (oA.belowA B6).belowA B7
          obtain ⟨ga, rfl⟩ : ∃ g, aA = some ⟨g, 0, none⟩ := by
            rcases oA7.split with ⟨_, h⟩ | ⟨g, cap, h, _⟩
            · have h2 : (txs LA).length = 0 := by rw [h]; rfl
              rw [txs_len] at h2; have := hpos.out; omega
            · exact ⟨g, (Value.slice.inj h).1⟩
          obtain ⟨gb, rfl⟩ : ∃ g, aB = some ⟨g, 0, none⟩ := by
            rcases oB.split with ⟨_, h⟩ | ⟨g, cap, h, _⟩
            · have h2 : (txs LB).length = 0 := by rw [h]; rfl
              rw [txs_len] at h2; have := hpos.out; omega
            · exact ⟨g, (Value.slice.inj h).1⟩
          have ca : Hid (∀ (k : Nat) (hk : k < LA.length), w7.cell? ⟨ga, k, none⟩ = some (.string (tx (LA[k]'hk)))) := fun k hk => by
            have h := oA7.cells k _ (txs_get LA k hk)
            rwa [Nat.zero_add] at h
          have cb : Hid (∀ (k : Nat) (hk : k < LB.length), w7.cell? ⟨gb, k, none⟩ = some (.string (tx (LB[k]'hk)))) := fun k hk => by
            have h := oB.cells k _ (txs_get LB k hk)
            rwa [Nat.zero_add] at h
          replace BB := hide BB
          have HL := hide hle
          clear oA oA7 oB B1 B2 B3 B4 B5 B6 B7 hleI hle
          go_loopw [7] (fun i wr => ∃ k : Nat, i = .int .i64 k ∧ k ≤ LA.length ∧ Hid (LA.drop 1 = LB.drop 1 ↔ LA.drop k = LB.drop k) ∧ Hid (Drawn w7 wr)) (fun i _ => LA.length - (intOf i).toNat)
          case atStart => exact ⟨1, rfl, hpos.out, Iff.rfl, Drawn.refl _⟩
          case round =>
            obtain ⟨k, rfl, hk, hE, HD⟩ := hrel
            by_cases hlt : k < LA.length
            · have hltB : k < LB.length := by have := HL.out; omega
              have hkB : k ≤ 1048577 := by have := hln.out; omega
              have hltBI : (k : Int) < (LB.length : Int) := by omega
              have c1 := (HD.out.cell ⟨ga, k, none⟩).trans (ca.out k hlt)
              have c2 := (HD.out.cell ⟨gb, k, none⟩).trans (cb.out k hltB)
              have dA : LA.drop k = LA[k]'hlt :: LA.drop (k + 1) := List.drop_eq_getElem_cons hlt
              have dB : LB.drop k = LB[k]'hltB :: LB.drop (k + 1) := List.drop_eq_getElem_cons hltB
              have hq := htx.out (LA[k]'hlt) (LB[k]'hltB)
              have hE2 := hE.out
              rw [dA, dB, List.cons.injEq] at hE2
              generalize LA[k]'hlt = u at *
              generalize LB[k]'hltB = v at *
              clear dA dB hE
              by_cases huv : u = v
              · have hF : Hid (LA.drop 1 = LB.drop 1 ↔ LA.drop (k + 1) = LB.drop (k + 1)) := ⟨fun h => (hE2.1 h).2, fun h => hE2.2 ⟨huv, h⟩⟩
                rw [decide_eq_true huv] at hq
                clear hE2 huv
                go_wp2
                go_region
                go_wp2
                go_roundw
                case rel => exact ⟨k + 1, by simp, by omega, hF, HD.out.more 1⟩
                case measure => simp [intOf]; omega
              · have hF : Hid (matchL p s = false) := by unfold Hid; rw [hR2.out]; exact decide_eq_false (fun h => huv (hE2.1 h).1)
                rw [decide_eq_false huv] at hq
                clear hE2 huv
                go_wp2
                go_region
                go_wp2
                go_ret
                exact ⟨by rw [hF.out]; rfl, (HD.out.more 1).below BB.out⟩
            · have hltI : ¬ (k : Int) < (LB.length : Int) := by have := HL.out; omega
              have hF : Hid (matchL p s = true) := by
                unfold Hid
                rw [hR2.out]
                refine decide_eq_true (hE.out.2 ?_)
                rw [List.drop_eq_nil_of_le (by omega), List.drop_eq_nil_of_le (by have := HL.out; omega)]
              go_wp2
              go_ret
              exact ⟨by rw [hF.out]; rfl, HD.out.below BB.out⟩
        · have hleI : ((LA.length : Int) != (LB.length : Int)) = true := by simp; omega
          have hR2 : Hid (matchL p s = false) := by unfold Hid; rw [hR.out]; exact decide_eq_false (fun h => hle h.1)
          go_enter Tryz.func61, Tryz.ntmps61
          go_wp2_with (first | (go_at_call 35; refine (d2.out w1).mono ?_; rintro e w2 ⟨rfl, B2⟩) | (go_at_call 35; refine (d1.out _).mono ?_; rintro e w1 ⟨rfl, B1⟩) | (go_at_call 36; refine (d3.out _).mono ?_; rintro e w3 ⟨rfl, B3⟩) | (go_at_call 63; refine (d5.out w5).mono ?_; rintro e w6 ⟨rfl, B6⟩) | (go_at_call 63; refine (d4.out w3).mono ?_; rintro e w4 ⟨rfl, B4⟩) | (go_at_call 41; refine (l5.out w6).mono ?_; rintro e w7 ⟨aB, cB, rfl, oB, B7⟩) | (go_at_call 41; refine (l4.out w4).mono ?_; rintro e w5 ⟨aA, cA, rfl, oA, B5⟩))
          go_ret
          have s1 := B1.size
          have s2 := B2.size
          have s3 := B3.size
          have s4 := B4.size
          have s5 := B5.size
          have s6 := B6.size
          exact ⟨by rw [hR2.out]; rfl, (((((B1.trans (B2.mono s1)).trans (B3.mono (by omega))).trans (B4.mono (by omega))).trans (B5.mono (by omega))).trans (B6.mono (by omega))).trans (B7.mono (by omega))⟩

end Go.Proofs.YtklchpdpooikdaaGreatDoor

namespace Go.Proofs.YtklchpdpooikdaaGreatDoor
open Go.RowKit Go.IntWalk

theorem cutD_at (d : UInt8) : ∀ (l : List UInt8) (k : Nat), (∀ (i : Nat) (h : i < l.length), i < k → l[i]'h ≠ d) → (h : k < l.length) → l[k]'h = d → (cutD d l).1 = l.take k ∧ (cutD d l).2.1 = l.drop (k + 1)
  | c :: r, 0, _, h, e => by
    have e2 : c = d := e
    rw [cutD, if_pos e2]
    simp
  | c :: r, k + 1, hn, h, e => by
    have hc : c ≠ d := hn 0 (by simp) (by omega)
    have ih := cutD_at d r k (fun i hi hik => hn (i + 1) (by simp; omega) (by omega)) (by simpa using h) (by simpa using e)
    rw [cutD, if_neg hc]
    simp [ih.1, ih.2]
theorem cutD_none (d : UInt8) : ∀ (l : List UInt8), (∀ (i : Nat) (h : i < l.length), l[i]'h ≠ d) → (cutD d l).2.1 = []
  | [], _ => rfl
  | c :: r, hn => by
    have hc : c ≠ d := hn 0 (by simp)
    rw [cutD, if_neg hc]
    exact cutD_none d r (fun i hi => hn (i + 1) (by simp; omega))

theorem locS_at (p : Bool) (l : List UInt8) (k : Nat) (h : k < l.length) : locS p (l.drop k) = if l[k]'h = 46 then (!p && locS true (l.drop (k + 1))) else (locN (l[k]'h).toNat && locS false (l.drop (k + 1))) := by
  rw [List.drop_eq_getElem_cons h, locS]

theorem locN_split (n : Nat) : locN n = ((ltN n || digN n) || (decide (n = 95) || (decide (n = 43) || decide (n = 45)))) := by unfold locN; rw [plN_split]
theorem locS_last : ∀ (l : List UInt8) (p : Bool), locS p l = true → (h : 0 < l.length) → l[l.length - 1]'(by omega) ≠ 46
  | [c], p, hl, _ => by
    intro e
    have e2 : c = 46 := e
    rw [locS, if_pos e2] at hl
    simp [locS] at hl
  | c :: d :: r, p, hl, _ => by
    have h2 : ∃ q, locS q (d :: r) = true := by
      rw [locS] at hl
      split at hl
      · exact ⟨_, (Bool.and_eq_true _ _ ▸ hl).2⟩
      · exact ⟨_, (Bool.and_eq_true _ _ ▸ hl).2⟩
    obtain ⟨q, hq⟩ := h2
    have ih := locS_last (d :: r) q hq (by simp)
    simpa using ih

end Go.Proofs.YtklchpdpooikdaaGreatDoor
