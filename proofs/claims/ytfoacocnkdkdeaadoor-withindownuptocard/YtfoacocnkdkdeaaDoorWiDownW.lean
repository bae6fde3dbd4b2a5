/-
  The statement WithinDown: its walk.
-/
import Derived.Test.YtfoacocnkdkdeaaDoorWiThere
namespace Go.Proofs.YtfoacocnkdkdeaaDoor
open Go.RowKit Go.Shelf Go.IntWalk


set_option maxRecDepth 100000 in
set_option maxHeartbeats 4000000 in
theorem down_walk (a b c : List UInt8) (ha : a.length ≤ 1048576) (hb : b.length ≤ 1048576) (hc : c.length ≤ 1048576) (m : Int) (w : World) (hm : ML w m) :
    Calls Tryd.prog 3 #[.string (tx a), .string (tx b), .string (tx c)] w fun e w' => e = .returned (.bool true) ∧ Below w.heap.size w w' := by
  have cab := hide (below_kp w a b ha hb m)
  have cbc := hide (below_kp w b c hb hc m)
  have cac := hide (below_kp w a c ha hc m)
  have caa := hide (below_kp w a a ha ha m)
  have cba := hide (below_kp w b a hb ha m)
  have cd : Hid (∀ W, Kp w m W → Calls Tryd.prog 5 #[.string (tx a)] W fun e W' => e = .returned (.bool (dnsL a)) ∧ Kp w m W') := fun W h => (dns_any a ha m W h.2).mono fun e W' ⟨h1, h2⟩ => ⟨h1, h.next h2⟩
  have cm : Hid (∀ W, Kp w m W → Calls Tryd.prog 6 #[.string (tx a), .string (tx b)] W fun e W' => e = .returned (.bool (matchL a b)) ∧ Kp w m W') := fun W h => (match_any a b ha hb m W h.2).mono fun e W' ⟨h1, h2⟩ => ⟨h1, h.next h2⟩
  have ct := hide (there_kp w m)
  have KP := hide (Kp.refl hm)
  have h1 : belB a b = true → belB b c = true → belB a c = true := bel_down
  have h2 := bel_self a
  have h3 := bel_both a b
  have h4 : belB a b = true → dnsL a = true := fun h => ((bel_iff a b).1 h).1
  rw [h2] at caa
  clear hm h2 ha hb hc
  generalize belB a b = x at *
  generalize belB b c = y at *
  generalize belB a c = z at *
  generalize belB b a = u at *
  generalize matchL a b = M at *
  generalize dnsL a = D at *
  generalize tx a = A at *
  generalize tx b = B at *
  generalize tx c = C at *
  cases D with
  | false =>
    obtain rfl : x = false := by cases x; rfl; exact absurd (h4 rfl) (by simp)
    clear h1 h3 h4
    cases M with
    | false =>
      go_enter Tryd.func3, Tryd.ntmps3
      go_wp2_with fail
      refine (cab.out _ KP.out).mono ?_
      rintro e w1 ⟨rfl, K1⟩
      replace KP := hide K1
      clear K1
      go_wp2_with fail
      refine (caa.out _ KP.out).mono ?_
      rintro e w1 ⟨rfl, K1⟩
      replace KP := hide K1
      clear K1
      go_wp2_with fail
      refine (cd.out _ KP.out).mono ?_
      rintro e w1 ⟨rfl, K1⟩
      replace KP := hide K1
      clear K1
      go_wp2_with fail
      refine (cab.out _ KP.out).mono ?_
      rintro e w1 ⟨rfl, K1⟩
      replace KP := hide K1
      clear K1
      go_wp2_with fail
      refine (cm.out _ KP.out).mono ?_
      rintro e w1 ⟨rfl, K1⟩
      replace KP := hide K1
      clear K1
      go_wp2_with fail
      refine (ct.out _ KP.out).mono ?_
      rintro e w1 ⟨rfl, K1⟩
      replace KP := hide K1
      clear K1
      go_wp2
      go_ret
      exact ⟨rfl, KP.out.1⟩
    | true =>
      go_enter Tryd.func3, Tryd.ntmps3
      go_wp2_with fail
      refine (cab.out _ KP.out).mono ?_
      rintro e w1 ⟨rfl, K1⟩
      replace KP := hide K1
      clear K1
      go_wp2_with fail
      refine (caa.out _ KP.out).mono ?_
      rintro e w1 ⟨rfl, K1⟩
      replace KP := hide K1
      clear K1
      go_wp2_with fail
      refine (cd.out _ KP.out).mono ?_
      rintro e w1 ⟨rfl, K1⟩
      replace KP := hide K1
      clear K1
      go_wp2_with fail
      refine (cab.out _ KP.out).mono ?_
      rintro e w1 ⟨rfl, K1⟩
      replace KP := hide K1
      clear K1
      go_wp2_with fail
      refine (cm.out _ KP.out).mono ?_
      rintro e w1 ⟨rfl, K1⟩
      replace KP := hide K1
      clear K1
      go_wp2_with fail
      refine (cd.out _ KP.out).mono ?_
      rintro e w1 ⟨rfl, K1⟩
      replace KP := hide K1
      clear K1
      go_wp2_with fail
      refine (ct.out _ KP.out).mono ?_
      rintro e w1 ⟨rfl, K1⟩
      replace KP := hide K1
      clear K1
      go_wp2
      go_ret
      exact ⟨rfl, KP.out.1⟩
  | true =>
    cases x with
    | false =>
      obtain rfl : M = false := by cases M; rfl; simp at h3
      clear h1 h3 h4
      go_enter Tryd.func3, Tryd.ntmps3
      go_wp2_with fail
      refine (cab.out _ KP.out).mono ?_
      rintro e w1 ⟨rfl, K1⟩
      replace KP := hide K1
      clear K1
      go_wp2_with fail
      refine (caa.out _ KP.out).mono ?_
      rintro e w1 ⟨rfl, K1⟩
      replace KP := hide K1
      clear K1
      go_wp2_with fail
      refine (cd.out _ KP.out).mono ?_
      rintro e w1 ⟨rfl, K1⟩
      replace KP := hide K1
      clear K1
      go_wp2_with fail
      refine (cab.out _ KP.out).mono ?_
      rintro e w1 ⟨rfl, K1⟩
      replace KP := hide K1
      clear K1
      go_wp2_with fail
      refine (cm.out _ KP.out).mono ?_
      rintro e w1 ⟨rfl, K1⟩
      replace KP := hide K1
      clear K1
      go_wp2_with fail
      refine (ct.out _ KP.out).mono ?_
      rintro e w1 ⟨rfl, K1⟩
      replace KP := hide K1
      clear K1
      go_wp2
      go_ret
      exact ⟨rfl, KP.out.1⟩
    | true =>
      obtain rfl : u = M := by cases u <;> cases M <;> simp_all
      clear h3 h4
      cases y with
      | false =>
        clear h1
        cases u with
        | false =>
          go_enter Tryd.func3, Tryd.ntmps3
          go_wp2_with fail
          refine (cab.out _ KP.out).mono ?_
          rintro e w1 ⟨rfl, K1⟩
          replace KP := hide K1
          clear K1
          go_wp2_with fail
          refine (cbc.out _ KP.out).mono ?_
          rintro e w1 ⟨rfl, K1⟩
          replace KP := hide K1
          clear K1
          go_wp2_with fail
          refine (caa.out _ KP.out).mono ?_
          rintro e w1 ⟨rfl, K1⟩
          replace KP := hide K1
          clear K1
          go_wp2_with fail
          refine (cd.out _ KP.out).mono ?_
          rintro e w1 ⟨rfl, K1⟩
          replace KP := hide K1
          clear K1
          go_wp2_with fail
          refine (cab.out _ KP.out).mono ?_
          rintro e w1 ⟨rfl, K1⟩
          replace KP := hide K1
          clear K1
          go_wp2_with fail
          refine (cba.out _ KP.out).mono ?_
          rintro e w1 ⟨rfl, K1⟩
          replace KP := hide K1
          clear K1
          go_wp2_with fail
          refine (cm.out _ KP.out).mono ?_
          rintro e w1 ⟨rfl, K1⟩
          replace KP := hide K1
          clear K1
          go_wp2_with fail
          refine (ct.out _ KP.out).mono ?_
          rintro e w1 ⟨rfl, K1⟩
          replace KP := hide K1
          clear K1
          go_wp2
          go_ret
          exact ⟨rfl, KP.out.1⟩
        | true =>
          go_enter Tryd.func3, Tryd.ntmps3
          go_wp2_with fail
          refine (cab.out _ KP.out).mono ?_
          rintro e w1 ⟨rfl, K1⟩
          replace KP := hide K1
          clear K1
          go_wp2_with fail
          refine (cbc.out _ KP.out).mono ?_
          rintro e w1 ⟨rfl, K1⟩
          replace KP := hide K1
          clear K1
          go_wp2_with fail
          refine (caa.out _ KP.out).mono ?_
          rintro e w1 ⟨rfl, K1⟩
          replace KP := hide K1
          clear K1
          go_wp2_with fail
          refine (cd.out _ KP.out).mono ?_
          rintro e w1 ⟨rfl, K1⟩
          replace KP := hide K1
          clear K1
          go_wp2_with fail
          refine (cab.out _ KP.out).mono ?_
          rintro e w1 ⟨rfl, K1⟩
          replace KP := hide K1
          clear K1
          go_wp2_with fail
          refine (cba.out _ KP.out).mono ?_
          rintro e w1 ⟨rfl, K1⟩
          replace KP := hide K1
          clear K1
          go_wp2_with fail
          refine (cm.out _ KP.out).mono ?_
          rintro e w1 ⟨rfl, K1⟩
          replace KP := hide K1
          clear K1
          go_wp2_with fail
          refine (cd.out _ KP.out).mono ?_
          rintro e w1 ⟨rfl, K1⟩
          replace KP := hide K1
          clear K1
          go_wp2_with fail
          refine (ct.out _ KP.out).mono ?_
          rintro e w1 ⟨rfl, K1⟩
          replace KP := hide K1
          clear K1
          go_wp2
          go_ret
          exact ⟨rfl, KP.out.1⟩
      | true =>
        obtain rfl : z = true := h1 rfl rfl
        clear h1
        cases u with
        | false =>
          go_enter Tryd.func3, Tryd.ntmps3
          go_wp2_with fail
          refine (cab.out _ KP.out).mono ?_
          rintro e w1 ⟨rfl, K1⟩
          replace KP := hide K1
          clear K1
          go_wp2_with fail
          refine (cbc.out _ KP.out).mono ?_
          rintro e w1 ⟨rfl, K1⟩
          replace KP := hide K1
          clear K1
          go_wp2_with fail
          refine (cac.out _ KP.out).mono ?_
          rintro e w1 ⟨rfl, K1⟩
          replace KP := hide K1
          clear K1
          go_wp2_with fail
          refine (caa.out _ KP.out).mono ?_
          rintro e w1 ⟨rfl, K1⟩
          replace KP := hide K1
          clear K1
          go_wp2_with fail
          refine (cd.out _ KP.out).mono ?_
          rintro e w1 ⟨rfl, K1⟩
          replace KP := hide K1
          clear K1
          go_wp2_with fail
          refine (cab.out _ KP.out).mono ?_
          rintro e w1 ⟨rfl, K1⟩
          replace KP := hide K1
          clear K1
          go_wp2_with fail
          refine (cba.out _ KP.out).mono ?_
          rintro e w1 ⟨rfl, K1⟩
          replace KP := hide K1
          clear K1
          go_wp2_with fail
          refine (cm.out _ KP.out).mono ?_
          rintro e w1 ⟨rfl, K1⟩
          replace KP := hide K1
          clear K1
          go_wp2_with fail
          refine (ct.out _ KP.out).mono ?_
          rintro e w1 ⟨rfl, K1⟩
          replace KP := hide K1
          clear K1
          go_wp2
          go_ret
          exact ⟨rfl, KP.out.1⟩
        | true =>
          go_enter Tryd.func3, Tryd.ntmps3
          go_wp2_with fail
          refine (cab.out _ KP.out).mono ?_
          rintro e w1 ⟨rfl, K1⟩
          replace KP := hide K1
          clear K1
          go_wp2_with fail
          refine (cbc.out _ KP.out).mono ?_
          rintro e w1 ⟨rfl, K1⟩
          replace KP := hide K1
          clear K1
          go_wp2_with fail
          refine (cac.out _ KP.out).mono ?_
          rintro e w1 ⟨rfl, K1⟩
          replace KP := hide K1
          clear K1
          go_wp2_with fail
          refine (caa.out _ KP.out).mono ?_
          rintro e w1 ⟨rfl, K1⟩
          replace KP := hide K1
          clear K1
          go_wp2_with fail
          refine (cd.out _ KP.out).mono ?_
          rintro e w1 ⟨rfl, K1⟩
          replace KP := hide K1
          clear K1
          go_wp2_with fail
          refine (cab.out _ KP.out).mono ?_
          rintro e w1 ⟨rfl, K1⟩
          replace KP := hide K1
          clear K1
          go_wp2_with fail
          refine (cba.out _ KP.out).mono ?_
          rintro e w1 ⟨rfl, K1⟩
          replace KP := hide K1
          clear K1
          go_wp2_with fail
          refine (cm.out _ KP.out).mono ?_
          rintro e w1 ⟨rfl, K1⟩
          replace KP := hide K1
          clear K1
          go_wp2_with fail
          refine (cd.out _ KP.out).mono ?_
          rintro e w1 ⟨rfl, K1⟩
          replace KP := hide K1
          clear K1
          go_wp2_with fail
          refine (ct.out _ KP.out).mono ?_
          rintro e w1 ⟨rfl, K1⟩
          replace KP := hide K1
          clear K1
          go_wp2
          go_ret
          exact ⟨rfl, KP.out.1⟩

end Go.Proofs.YtfoacocnkdkdeaaDoor
