/-
  within.Below: is a host's name below another one?
-/
import Derived.Test.YtfoacocnkdkdeaaGreatDoorHoMt
import Derived.Test.YtfoacocnkdkdeaaGreatDoorWiM
namespace Go.Proofs.YtfoacocnkdkdeaaGreatDoor
open Go.RowKit Go.Shelf Go.IntWalk

theorem tx_catW (a b : List UInt8) : tx a ++ tx b = tx (a ++ b) := by
  apply ByteArray.ext
  apply Array.ext'
  simp [tx]
theorem dot_cat (a : List UInt8) : (⟨#[46]⟩ : ByteArray) ++ tx a = tx (46 :: a) := tx_catW [46] a

/-- What stood in the world w stands, and so does the table that strings.Cut reads. -/
def Kp (w : World) (m : Int) (W : World) : Prop := Below w.heap.size w W ∧ ML W m
theorem Kp.next {w W W' : World} {m : Int} (h : Kp w m W) (hb : Below W.heap.size W W') : Kp w m W' := ⟨h.1.trans (hb.mono h.1.size), h.2.below hb⟩
theorem Kp.refl {w : World} {m : Int} (h : ML w m) : Kp w m w := ⟨Below.refl _ _, h⟩

theorem lower_any (a : List UInt8) (ha : a.length ≤ 1048576) (xa : dnsL a = true) (w : World) :
    Calls Tryz.prog 27 #[.string (tx (46 :: a))] w fun e w' => e = .returned (.string (tx (smallL (46 :: a)))) ∧ Below w.heap.size w w' := by
  have h := Tryz.strings_ToLower_ascii (tx (46 :: a)) w (by rw [tx_size]; simp; omega) (fun _ x hx => by
    have hm : x ∈ 46 :: a := List.mem_of_getElem? hx
    rcases List.mem_cons.1 hm with rfl | hm
    · decide
    · exact dns_ascii xa x hm)
  rw [tx_list, lower_smallL] at h
  exact h

set_option maxRecDepth 100000 in
set_option maxHeartbeats 2000000 in
theorem below_kp (w0 : World) (a b : List UInt8) (ha : a.length ≤ 1048576) (hb : b.length ≤ 1048576) (m : Int) (w : World) (hm : Kp w0 m w) :
    Calls Tryz.prog 8 #[.string (tx a), .string (tx b)] w fun e w' => e = .returned (.bool (belB a b)) ∧ Kp w0 m w' := by
  have hM : Hid (belB a b = (dnsL a && (dnsL b && Lib.hasSuffix (smallL (46 :: a)) (smallL (46 :: b))))) := rfl
  have d1 : Hid (∀ W, Kp w0 m W → Calls Tryz.prog 25 #[.string (tx a)] W fun e W' => e = .returned (.bool (dnsL a)) ∧ Kp w0 m W') := fun W h => (dns_any a ha m W h.2).mono fun e W' ⟨h1, h2⟩ => ⟨h1, h.next h2⟩
  have d2 : Hid (∀ W, Kp w0 m W → Calls Tryz.prog 25 #[.string (tx b)] W fun e W' => e = .returned (.bool (dnsL b)) ∧ Kp w0 m W') := fun W h => (dns_any b hb m W h.2).mono fun e W' ⟨h1, h2⟩ => ⟨h1, h.next h2⟩
  have l1 : Hid (dnsL a = true → ∀ W, Kp w0 m W → Calls Tryz.prog 27 #[.string (⟨#[46]⟩ ++ tx a)] W fun e W' => e = .returned (.string (tx (smallL (46 :: a)))) ∧ Kp w0 m W') := fun h0 W h => by rw [dot_cat]; exact (lower_any a ha h0 W).mono fun e W' ⟨h1, h2⟩ => ⟨h1, h.next h2⟩
  have l2 : Hid (dnsL b = true → ∀ W, Kp w0 m W → Calls Tryz.prog 27 #[.string (⟨#[46]⟩ ++ tx b)] W fun e W' => e = .returned (.string (tx (smallL (46 :: b)))) ∧ Kp w0 m W') := fun h0 W h => by rw [dot_cat]; exact (lower_any b hb h0 W).mono fun e W' ⟨h1, h2⟩ => ⟨h1, h.next h2⟩
  have s1 : Hid (∀ W, Calls Tryz.prog 26 #[.string (tx (smallL (46 :: a))), .string (tx (smallL (46 :: b)))] W fun e W' => e = .returned (.bool (Lib.hasSuffix (smallL (46 :: a)) (smallL (46 :: b)))) ∧ W' = W) := fun W => Tryz.strings_HasSuffix _ _ W (by rw [tx_size, small_len]; simp; omega)
  have HM := hide hm
  have zA : ¬ 9223372036854775807 < 1 + (tx a).size := by rw [tx_size]; omega
  have zB : ¬ 9223372036854775807 < 1 + (tx b).size := by rw [tx_size]; omega
  clear hm ha hb
  generalize Lib.hasSuffix (smallL (46 :: a)) (smallL (46 :: b)) = x at *
  generalize belB a b = R at *
  generalize dnsL a = b1 at *
  generalize dnsL b = b2 at *
  generalize tx (smallL (46 :: a)) = LA at *
  generalize tx (smallL (46 :: b)) = LB at *
  generalize tx a = A at *
  generalize tx b = B at *
  cases b1 with
  | false =>
    have hR : Hid (R = false) := hM.out
    go_enter Tryz.func8, Tryz.ntmps8
    go_wp2_with (go_at_call 25; refine (d1.out _ HM.out).mono ?_; rintro e w1 ⟨rfl, K1⟩)
    go_ret
    exact ⟨by rw [hR.out]; rfl, K1⟩
  | true =>
    cases b2 with
    | false =>
      have hR : Hid (R = false) := hM.out
      go_enter Tryz.func8, Tryz.ntmps8
      go_wp2_with (first | (go_at_call 25; refine (d2.out _ K1.out).mono ?_; rintro e w2 ⟨rfl, K2⟩) | (go_at_call 25; refine (d1.out _ HM.out).mono ?_; rintro e w1 ⟨rfl, K1⟩; replace K1 := hide K1))
      go_ret
      exact ⟨by rw [hR.out]; rfl, K2⟩
    | true =>
      have hR : Hid (R = x) := hM.out
      have m1 := hide (l1.out rfl)
      have m2 := hide (l2.out rfl)
      go_enter Tryz.func8, Tryz.ntmps8
      go_wp2_with (first | (go_at_call 25; refine (d2.out _ K1.out).mono ?_; rintro e w2 ⟨rfl, K2⟩; replace K2 := hide K2) | (go_at_call 25; refine (d1.out _ HM.out).mono ?_; rintro e w1 ⟨rfl, K1⟩; replace K1 := hide K1) | (go_at_call 27; refine (m2.out _ K3.out).mono ?_; rintro e w4 ⟨rfl, K4⟩; replace K4 := hide K4) | (go_at_call 27; refine (m1.out _ K2.out).mono ?_; rintro e w3 ⟨rfl, K3⟩; replace K3 := hide K3) | (go_at_call 26; refine (s1.out _).mono ?_; rintro e w5 ⟨rfl, h5⟩; subst h5))
      go_ret
      exact ⟨by rw [hR.out]; rfl, K4.out⟩

end Go.Proofs.YtfoacocnkdkdeaaGreatDoor
