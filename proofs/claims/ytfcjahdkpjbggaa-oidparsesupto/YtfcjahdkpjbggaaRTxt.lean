/-
  The document's Text: the numbers in decimal digits, points between them (txtC), or a refusal.
-/
import Derived.Test.YtfcjahdkpjbggaaOEnc
import Derived.Test.YtfcjahdkpjbggaaRDig
import Derived.Lib.Join
namespace Go.Proofs.Ytfcjahdkpjbggaa
open Go.RowKit Go.IntWalk

def txtL (xs : List Int) : List UInt8 := Lib.join (xs.map Lib.itoa) [46]
def txtC (xs : List Int) : ByteArray := if mayS xs = true then ⟨(txtL xs).toArray⟩ else ⟨#[]⟩

theorem itoa_dec (x : Int) (h : 0 ≤ x) : Lib.itoa x = Lib.decDigits x.toNat := by
  obtain ⟨u, rfl⟩ := Int.eq_ofNat_of_zero_le h
  rw [Lib.itoa_nonneg]
  rfl

theorem txtL_cons (x : Int) (ys : List Int) : txtL (x :: ys) = Lib.itoa x ++ Lib.joinTail [46] (ys.map Lib.itoa) := by
  unfold txtL
  rw [List.map_cons, Lib.join_cons]

theorem tail_next (ys : List Int) (k : Nat) (h : k < ys.length) : Lib.joinTail [46] ((ys.take (k + 1)).map Lib.itoa) = Lib.joinTail [46] ((ys.take k).map Lib.itoa) ++ [46] ++ Lib.itoa (ys.getD k 0) := by
  rw [List.map_take, List.map_take]
  exact Lib.joinTail_take_succ [46] (ys.map Lib.itoa) k _ (by simp [List.getD, h])

theorem tail_len : ∀ ys : List Int, (∀ x ∈ ys, 0 ≤ x ∧ x ≤ 2147483647) → (Lib.joinTail [46] (ys.map Lib.itoa)).length ≤ 22 * ys.length
  | [], _ => by simp [Lib.joinTail]
  | x :: l, h => by
    have h1 := tail_len l (fun y hy => h y (List.mem_cons_of_mem _ hy))
    have h2 := h x (List.mem_cons_self ..)
    have h3 := Lib.itoa_length_le x (by omega) (by omega)
    unfold Lib.joinTail at *
    rw [List.map_cons, List.map_cons, List.flatten_cons, List.length_append, List.length_append, List.length_cons]
    simp only [List.length_cons, List.length_nil]
    omega

set_option maxRecDepth 100000 in
set_option maxHeartbeats 1000000 in
theorem refText_any (ao : Option Addr) (n cap : Nat) (xs : List Int) (w : World) (hs : SrcI w ao n cap xs) :
    Calls Try.prog 33 #[.slice ao n cap] w fun e w' => e = .returned (.tuple #[.string (txtC xs), .int .i64 (encE xs)]) ∧ Below w.heap.size w w' := by
  have HL := hide hs.hlen
  have Hm := hide (refMay_any ao n cap xs w hs)
  cases hm : mayS xs with
  | false =>
    rw [hm] at Hm
    have e1 : txtC xs = ⟨#[]⟩ := by simp [txtC, hm]
    have e2 : encE xs = 2 := by simp [encE, hm]
    rw [e1, e2]
    clear e1 e2 hm
    go_enter Try.func33, Try.ntmps33
    go_wp2_with fail
    refine Hm.out.mono ?_
    rintro e w1 ⟨rfl, hD⟩
    go_wp2
    refine bodyPost_ret (v := .tuple #[.string ⟨#[]⟩, .int .i64 2]) (by simp [results, Try.results33, go_sem]) rfl ⟨rfl, hD.toBelow _⟩
  | true =>
    rw [hm] at Hm
    have e1 : txtC xs = ⟨(txtL xs).toArray⟩ := by simp [txtC, hm]
    have e2 : encE xs = 0 := by simp [encE, hm]
    obtain ⟨p2, p20, pall, _⟩ := may_parts hm
    rw [e1, e2]
    clear e1 e2 hm
    have HP := hide pall
    rw [HL.out] at p2 p20
    obtain ⟨m, rfl⟩ : ∃ m, n = m + 1 := ⟨n - 1, by omega⟩
    obtain ⟨b, off, rfl, c0⟩ := hs.at 0 (by omega)
    rw [Nat.add_zero] at c0
    have HC : Hid (∀ k, k < m → w.cell? ⟨b, off + (1 + k), none⟩ = some (.int .i64 ((xs.drop 1).getD k 0))) := by
      intro k hk
      obtain ⟨b2, o2, he, hc⟩ := hs.at (1 + k) (by omega)
      simp at he
      obtain ⟨rfl, rfl⟩ := he
      rw [hc]
      simp [List.getD, Nat.add_comm 1 k]
    have hbl : b < w.heap.size := lt_of_cell c0
    have hE : Hid (txtL xs = Lib.itoa (xs.getD 0 0) ++ Lib.joinTail [46] ((xs.drop 1).map Lib.itoa)) := by
      unfold Hid
      have h1 := HL.out
      cases xs with
      | nil => simp at h1
      | cons x l => rw [txtL_cons]; rfl
    have hall2 : Hid (∀ x ∈ xs.drop 1, 0 ≤ x ∧ x ≤ 2147483647) := fun x hx => HP.out x (List.mem_of_mem_drop hx)
    have hl2 : Hid ((xs.drop 1).length = m) := by unfold Hid; rw [List.length_drop, HL.out]; rfl
    have hx0 : 0 ≤ xs.getD 0 0 ∧ xs.getD 0 0 ≤ 2147483647 := by
      rw [List.getD, List.getElem?_eq_getElem (show 0 < xs.length by rw [HL.out]; omega)]; exact HP.out _ (List.getElem_mem _)
    generalize xs.drop 1 = ys at HC hE hall2 hl2
    generalize xs.getD 0 0 = x0 at *
    obtain ⟨u0, rfl⟩ := Int.eq_ofNat_of_zero_le hx0.1
    have hu0 : u0 ≤ 2147483647 := by omega
    have hE : Hid (txtL xs = Lib.decDigits u0 ++ Lib.joinTail [46] (ys.map Lib.itoa)) := by unfold Hid; rw [hE.out, itoa_dec _ hx0.1]; rfl
    have h00 : 0 < (m : Int) + 1 := by omega
    clear hx0
    have hm20 : (m : Int) ≤ 19 := by omega
    go_enter Try.func33, Try.ntmps33
    go_wp2_with fail
    refine Hm.out.mono ?_
    rintro e w1 ⟨rfl, hD⟩
    have d0 := (hD.cell ⟨b, off, none⟩).trans c0
    have hbl1 : b < w1.heap.size := by rw [hD.heap]; exact hbl
    have HC1 : Hid (∀ k, k < m → w1.cell? ⟨b, off + (1 + k), none⟩ = some (.int .i64 (ys.getD k 0))) := fun k hk => (hD.cell _).trans (HC.out k hk)
    go_wp2_with (go_at_call 46; refine (refDigits_any u0 hu0 _).mono ?_; rintro e w2 ⟨rfl, B2⟩)
    have B2' : Below w1.heap.size w1 w2 := B2
    clear d0
    obtain ⟨D0, hD0⟩ : ∃ D0 : ByteArray, D0 = ⟨(Lib.decDigits u0).toArray⟩ := ⟨_, rfl⟩
    rw [← hD0]
    have HD0 : Hid (D0.data.toList = Lib.decDigits u0) := by unfold Hid; rw [hD0]
    have hlen0 := hide (dec_len u0 hu0)
    clear hD0
    go_loopw [4, 5] (fun v i wr => ∃ (k : Nat) (D : ByteArray), k ≤ m ∧ i = .int .i64 (1 + (k : Int)) ∧ v = .string D ∧ Hid (D.data.toList = Lib.decDigits u0 ++ Lib.joinTail [46] ((ys.take k).map Lib.itoa)) ∧ Below w1.heap.size w1 wr) (fun _ i _ => m + 1 - (intOf i).toNat)
    case atStart => exact ⟨0, D0, Nat.zero_le _, rfl, rfl, by unfold Hid; rw [HD0.out]; simp [Lib.joinTail], B2'⟩
    case round =>
      obtain ⟨k, D, hk, rfl, rfl, hDD, hB⟩ := hrel
      have hBs := hB.size
      by_cases hlt : k < m
      · have e1 := (hB.cell (p := ⟨b, off + (1 + k), none⟩) hbl1).trans (HC1.out k hlt)
        have hx : 0 ≤ ys.getD k 0 ∧ ys.getD k 0 ≤ 2147483647 := by
          rw [List.getD, List.getElem?_eq_getElem (by rw [hl2.out]; exact hlt)]
          exact hall2.out _ (List.getElem_mem _)
        have hnx := hide (tail_next ys k (by rw [hl2.out]; exact hlt))
        have hsz : D.size ≤ 1000 := by
          have h1 := tail_len (ys.take k) (fun x hx => hall2.out x (List.mem_of_mem_take hx))
          have h2 := hlen0.out
          have h3 : D.data.toList.length = D.size := by rw [Array.length_toList]; rfl
          rw [hDD.out, List.length_append] at h3
          rw [List.length_take] at h1
          omega
        generalize ys.getD k 0 = x at e1 hx hnx
        obtain ⟨u, rfl⟩ := Int.eq_ofNat_of_zero_le hx.1
        have hu : u ≤ 2147483647 := by omega
        have hcall := hide (fun W => refDigits_any u hu W)
        obtain ⟨G, hG⟩ : ∃ G : ByteArray, G = ⟨(Lib.decDigits u).toArray⟩ := ⟨_, rfl⟩
        rw [← hG] at hcall
        have hGs : G.size ≤ 21 := by have := dec_len u hu; rw [hG]; simpa [ByteArray.size] using this
        have hs1 : ¬ 9223372036854775807 < D.size + (⟨#[46]⟩ : ByteArray).size := by have : (⟨#[46]⟩ : ByteArray).size = 1 := rfl; omega
        obtain ⟨E1, hE1⟩ : ∃ E1 : ByteArray, D ++ (⟨#[46]⟩ : ByteArray) = E1 := ⟨_, rfl⟩
        have hE1s : E1.size ≤ 1001 := by rw [← hE1, ByteArray.size_append]; have : (⟨#[46]⟩ : ByteArray).size = 1 := rfl; omega
        have hs2 : ¬ 9223372036854775807 < E1.size + G.size := by omega
        obtain ⟨E2, hE2⟩ : ∃ E2 : ByteArray, E1 ++ G = E2 := ⟨_, rfl⟩
        have hst : Hid (E2.data.toList = Lib.decDigits u0 ++ Lib.joinTail [46] ((ys.take (k + 1)).map Lib.itoa)) := by
          unfold Hid
          rw [hnx.out, itoa_dec _ hx.1, ← hE2, ← hE1, hG]
          simp [hDD.out]
        have kI : (1 : Int) + (k : Int) < (m : Int) + 1 := by omega
        have k2 : (0 : Int) ≤ 1 + (k : Int) := by omega
        have k3 : ((1 : Int) + (k : Int)).toNat = 1 + k := by omega
        clear hG hx hGs
        go_wp2_with (go_at_call 46; refine (hcall.out _).mono ?_; rintro e w3 ⟨rfl, B3⟩)
        go_roundw
        case rel => exact ⟨k + 1, E2, by omega, by go_num, rfl, hst, hB.trans (B3.mono hBs)⟩
        case measure => simp [intOf]; omega
      · have kI : ¬ (1 : Int) + (k : Int) < (m : Int) + 1 := by omega
        have hfin : Hid (D = ⟨(txtL xs).toArray⟩) := by
          unfold Hid
          apply ByteArray.ext
          apply Array.toList_inj.1
          rw [hDD.out, List.take_of_length_le (by rw [hl2.out]; omega), ← hE.out]
        go_wp2
        refine bodyPost_ret (v := .tuple #[.string D, .int .i64 0]) (by simp [results, Try.results33, go_sem]) rfl ⟨by rw [hfin.out], (hD.toBelow _).trans (hB.mono (by rw [hD.heap]; exact Nat.le_refl _))⟩

end Go.Proofs.Ytfcjahdkpjbggaa
