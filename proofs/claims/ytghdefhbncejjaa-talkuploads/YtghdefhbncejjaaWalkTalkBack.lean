/-
  The walk of the law TalkBack: what is packed and read is what it was.
-/
import Derived.Test.YtghdefhbncejjaaTk8
namespace Go.Proofs.Ytghdefhbncejjaa
open Go.RowKit
set_option linter.unusedVariables false

theorem u64_boundsT {n : Int} (h : (Lit.int .u64 n).wf = true) : 0 ≤ n ∧ n < 18446744073709551616 := by
  have h1 : IntKind.u64.min = 0 := rfl
  have h2 : IntKind.u64.max = 18446744073709551615 := rfl
  simp [Lit.wf] at h
  omega
theorem own_capT {w : World} {B : Nat} {v : Value} {l : List UInt8} (h : OwnB w B v l) : ∃ a c, v = .slice a l.length c ∧ BAt w a l ∧ l.length ≤ c := by
  rcases h.shape with ⟨rfl, rfl⟩ | ⟨g, cap, rfl, hg1, hg2, hg3, hg4, hg5⟩
  · exact ⟨none, 0, rfl, BAt.nil _ _, by simp⟩
  · exact ⟨_, cap, rfl, hg5, hg3⟩
set_option maxHeartbeats 8000000 in
theorem walkTalkBack {w : World} (cm nu : Int) (ao : Option Addr) (c : Nat) (l : List UInt8) (hd : BAt w ao l) (hn : ao = none → l = [] ∧ c = 0) (hz : l.length ≤ 140737488351232) (st : Int) (hst : (Lit.int .u64 st).wf = true) :
    Calls Try.prog 6 #[.agg #[.int .i64 cm, .int .i64 nu, .slice ao l.length c], .int .u64 st] w fun e w' => e = .returned (.bool true) ∧ Below w.heap.size w w' := by
  have HA : Hid (Below w.heap.size w (w.alloc (.cells #[.int .i64 cm, .int .i64 nu, .slice ao l.length c] 24))) := hide ((Below.refl _ w).alloc (Nat.le_refl _) _)
  have HR : Hid (Bx (w.alloc (.cells #[.int .i64 cm, .int .i64 nu, .slice ao l.length c] 24)) w.heap.size 24 #[.int .i64 cm, .int .i64 nu, .slice ao l.length c]) := hide (heap_alloc_new w _)
  have HD := hide (hd.below' (unhide HA))
  have HN := hide hn
  have hu := u64_boundsT hst
  clear hd hn hst
  by_cases hE : rqE cm nu l = 0
  · obtain ⟨r1, r2, r3⟩ := rqE_len hE
    obtain ⟨S, hS⟩ : ∃ S : Int, S = st % 65536 := ⟨_, rfl⟩
    have hS1 : 0 ≤ S := by omega
    have hS2 : S ≤ 65535 := by omega
    have hAE : anE S l = 0 := by unfold anE; rw [if_neg (by omega), if_neg (by omega)]
    obtain ⟨q1, q2, q3, q4, q5⟩ := rq_back hE
    obtain ⟨p1, p2, p3, p4⟩ := an_back hAE
    go_enter Try.func6, Try.ntmps6
    go_upto_region 1 with fail
    generalize (w.alloc (.cells #[.int .i64 cm, .int .i64 nu, .slice ao l.length c] 24)) = W0 at HA HR HD ⊢
    have HM := hide (may_yes cm nu ao c l W0 hE)
    have k0 := (unhide HR).c 0 rfl
    have k1 := (unhide HR).c 1 rfl
    have k2 := (unhide HR).c 2 rfl
    obtain ⟨L, hL⟩ : ∃ L, L = rqL cm nu l := ⟨_, rfl⟩
    obtain ⟨M, hM⟩ : ∃ M, M = anL S l := ⟨_, rfl⟩
    have HPk := hide (fun W hb hc => Pack_any cm nu ao c l W hb hc (by omega))
    have HTo := hide (fun W hb hc => Told_any S ao c l W hb hc (by omega))
    rw [hE, ← hL] at HPk
    rw [hAE, ← hM] at HTo
    rw [← hL] at q1 q2 q3 q4 q5
    rw [← hM] at p1 p2 p3 p4
    have HLl : Hid (L.length ≤ 1000) := hide (by omega)
    have HMl : Hid (M.length ≤ 1000) := hide (by omega)
    have HUn := hide (fun ao c W hb hlc hl => Unpack_any ao c L W hb hlc hl)
    have HHe := hide (fun ao c W hb hlc hl => Heard_any ao c M W hb hlc hl)
    rw [q1, q2, q3, q4] at HUn
    rw [p1, p2, p3] at HHe
    have HS := hide hS
    clear hL hM q1 q2 q3 q4 q5 p1 p2 p3 p4 hE hAE r1 r2 hS
    go_wp2_with fail
    refine (unhide HM).mono ?_
    rintro e W1 ⟨rfl, hb1⟩
    have HB1 := hide hb1
    have HP := hide (unhide HPk W1 ((unhide HD).below' hb1) (unhide HN))
    clear k0 k1 k2 hb1 HM
    have k0 := ((unhide HR).below (unhide HB1)).c 0 rfl
    have k1 := ((unhide HR).below (unhide HB1)).c 1 rfl
    have k2 := ((unhide HR).below (unhide HB1)).c 2 rfl
    go_wp2_with fail
    refine (unhide HP).mono ?_
    rintro e W2 ⟨v2, rfl, hO2, hb2⟩
    have HB2 := hide ((unhide HB1).trans (hb2.mono (unhide HB1).size))
    obtain ⟨va, vc, rfl, hva, hvc⟩ := own_capT hO2
    have HU := hide (unhide HUn va vc W2 hva hvc (by have := unhide HLl; omega))
    clear hO2 hb2 hva hvc HP k0 k1 k2
    go_wp2_with fail
    refine (unhide HU).mono ?_
    rintro e W3 ⟨v3, rfl, hO3, hb3⟩
    have HB3 := hide ((unhide HB2).trans (hb3.mono (unhide HB2).size))
    obtain ⟨xa, xc, rfl, hxa, hxc⟩ := own_capT hO3
    have HX3 : Hid (Bx (W3.alloc (.cells #[.int .i64 cm, .int .i64 nu, .slice xa l.length xc] 24)) W3.heap.size 24 #[.int .i64 cm, .int .i64 nu, .slice xa l.length xc]) := hide (heap_alloc_new W3 _)
    have hal : Below W3.heap.size W3 (W3.alloc (.cells #[.int .i64 cm, .int .i64 nu, .slice xa l.length xc] 24)) := (Below.refl _ _).alloc (Nat.le_refl _) _
    have HB4 := hide ((unhide HB3).trans (hal.mono (unhide HB3).size))
    have HXa := hide (hxa.below' hal)
    clear hO3 hb3 hxa hxc HU hal
    go_upto_region 5 with fail
    generalize W3.heap.size = g3 at HX3 ⊢
    generalize (W3.alloc (.cells #[.int .i64 cm, .int .i64 nu, .slice xa l.length xc] 24)) = W4 at HX3 HB4 HXa ⊢
    have t1 : st % 65536 = S := (unhide HS).symm
    have t2 : Int.tmod st 65536 = S := by rw [Int.tmod_eq_emod_of_nonneg hu.1]; exact t1
    have t3 := wrap_T hS1 (by omega)
    have k2 := ((unhide HR).below (unhide HB4)).c 2 rfl
    go_upto_region 6 with fail
    have HY4 : Hid (Bx (W4.alloc (.cells #[.int .i64 S, .slice ao l.length c] 26)) W4.heap.size 26 #[.int .i64 S, .slice ao l.length c]) := hide (heap_alloc_new W4 _)
    have hal : Below W4.heap.size W4 (W4.alloc (.cells #[.int .i64 S, .slice ao l.length c] 26)) := (Below.refl _ _).alloc (Nat.le_refl _) _
    have HB5 := hide ((unhide HB4).trans (hal.mono (unhide HB4).size))
    have HXb := hide ((unhide HXa).below' hal)
    have HX5 := hide ((unhide HX3).below hal)
    clear hal k2 t1 t2 t3 HX3 HXa
    generalize W4.heap.size = g4 at HY4 ⊢
    generalize (W4.alloc (.cells #[.int .i64 S, .slice ao l.length c] 26)) = W5 at HY4 HB5 HXb HX5 ⊢
    have HT := hide (unhide HTo W5 ((unhide HD).below' (unhide HB5)) (unhide HN))
    have k0 := (unhide HY4).c 0 rfl
    have k1 := (unhide HY4).c 1 rfl
    go_wp2_with fail
    refine (unhide HT).mono ?_
    rintro e W6 ⟨v6, rfl, hO6, hb6⟩
    have HB6 := hide ((unhide HB5).trans (hb6.mono (unhide HB5).size))
    have HY6 := hide ((unhide HY4).below hb6)
    have HX6 := hide ((unhide HX5).below hb6)
    have HXc := hide ((unhide HXb).below' hb6)
    obtain ⟨ya, yc, rfl, hya, hyc⟩ := own_capT hO6
    have HH := hide (unhide HHe ya yc W6 hya hyc (by have := unhide HMl; omega))
    clear hO6 hb6 hya hyc HT k0 k1 HY4 HX5 HXb
    go_wp2_with fail
    refine (unhide HH).mono ?_
    rintro e W7 ⟨v7, rfl, hO7, hb7⟩
    have HB7 := hide ((unhide HB6).trans (hb7.mono (unhide HB6).size))
    have HY7 := hide ((unhide HY6).below hb7)
    have HX7 := hide ((unhide HX6).below hb7)
    have HXd := hide ((unhide HXc).below' hb7)
    obtain ⟨za, zc, rfl, hza, hzc⟩ := own_capT hO7
    have HZ7 : Hid (Bx (W7.alloc (.cells #[.int .i64 S, .slice za l.length zc] 26)) W7.heap.size 26 #[.int .i64 S, .slice za l.length zc]) := hide (heap_alloc_new W7 _)
    have hal : Below W7.heap.size W7 (W7.alloc (.cells #[.int .i64 S, .slice za l.length zc] 26)) := (Below.refl _ _).alloc (Nat.le_refl _) _
    have HB8 := hide ((unhide HB7).trans (hal.mono (unhide HB7).size))
    have HY8 := hide ((unhide HY7).below hal)
    have HX8 := hide ((unhide HX7).below hal)
    have HXe := hide ((unhide HXd).below' hal)
    have HZa := hide (hza.below' hal)
    clear hO7 hb7 hza hzc HH hal HY6 HX6 HXc HY7 HX7 HXd
    go_upto_region 8 with fail
    generalize W7.heap.size = g7 at HZ7 ⊢
    generalize (W7.alloc (.cells #[.int .i64 S, .slice za l.length zc] 26)) = W8 at HZ7 HB8 HY8 HX8 HXe HZa ⊢
    have HD8 := hide ((unhide HD).below' (unhide HB8))
    have HSr := hide (sameRq_yes cm nu xa ao xc c l W8 (unhide HXe) (unhide HD8) (by unfold maxLen; omega))
    have k0 := (unhide HX8).c 0 rfl
    have k1 := (unhide HX8).c 1 rfl
    have k2 := (unhide HX8).c 2 rfl
    have m0 := ((unhide HR).below (unhide HB8)).c 0 rfl
    have m1 := ((unhide HR).below (unhide HB8)).c 1 rfl
    have m2 := ((unhide HR).below (unhide HB8)).c 2 rfl
    go_wp2_with fail
    refine (unhide HSr).mono ?_
    rintro e W9 ⟨rfl, hb9⟩
    have HB9 := hide ((unhide HB8).trans (hb9.mono (unhide HB8).size))
    have HSa := hide (sameAn_yes S za ao zc c l W9 ((unhide HZa).below' hb9) ((unhide HD8).below' hb9) (by unfold maxLen; omega))
    have n0 := ((unhide HZ7).below hb9).c 0 rfl
    have n1 := ((unhide HZ7).below hb9).c 1 rfl
    have n2 := ((unhide HY8).below hb9).c 0 rfl
    have n3 := ((unhide HY8).below hb9).c 1 rfl
    clear hb9 k0 k1 k2 m0 m1 m2 HSr
    go_wp2_with fail
    refine (unhide HSa).mono ?_
    rintro e W10 ⟨rfl, hb10⟩
    have HB10 := hide ((unhide HB9).trans (hb10.mono (unhide HB9).size))
    clear hb10 HSa n0 n1 n2 n3
    go_wp2
    go_ret
    exact ⟨rfl, (unhide HA).trans ((unhide HB10).mono (unhide HA).size)⟩

  · go_enter Try.func6, Try.ntmps6
    go_upto_region 1 with fail
    generalize (w.alloc (.cells #[.int .i64 cm, .int .i64 nu, .slice ao l.length c] 24)) = W0 at HA HR HD ⊢
    have HM := hide (may_no cm nu ao c l W0 hE)
    have k0 := (unhide HR).c 0 rfl
    have k1 := (unhide HR).c 1 rfl
    have k2 := (unhide HR).c 2 rfl
    go_wp2_with fail
    refine (unhide HM).mono ?_
    rintro e W1 ⟨rfl, hb1⟩
    have HB1 := hide ((unhide HA).trans (hb1.mono (unhide HA).size))
    have HW := hide (awake_any W1)
    clear hb1 k0 k1 k2 HM
    go_wp2_with fail
    refine (unhide HW).mono ?_
    rintro e W2 ⟨rfl, hb2⟩
    have HB2 := hide ((unhide HB1).trans (hb2.mono (unhide HB1).size))
    clear hb2 HW
    go_wp2
    go_ret
    exact ⟨rfl, unhide HB2⟩
end Go.Proofs.Ytghdefhbncejjaa
