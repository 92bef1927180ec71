/-
  The walk of the law ModuleForm: it returns true for every row of bytes, and writes nothing that was there.
-/
import Derived.Test.YtibgfdjopikafaaGreatDoorKLm1
import Derived.Test.YtibgfdjopikafaaGreatDoorShell
namespace Go.Proofs.YtibgfdjopikafaaGreatDoor
open Go.RowKit
set_option maxRecDepth 20000
set_option linter.unusedVariables false
set_option linter.unusedSimpArgs false

def mdM : Md := ⟨⟨#[109]⟩, none, 0, [], none, 0, [], none, 0, []⟩
theorem nil_ok (W : World) (s : ByteArray) (h : s.size ≤ 255) : MdR W W.heap.size ⟨s, none, 0, [], none, 0, [], none, 0, []⟩ :=
  ⟨RowAt.nil _ _ _, RowAt.nil _ _ _, RowAt.nil _ _ _, ⟨fun _ _ e => by (cases e), fun _ h => by (cases h)⟩, ⟨fun _ _ e => by (cases e), fun _ h => by (cases h)⟩, ⟨fun _ _ e => by (cases e), fun _ h => by (cases h)⟩, Nat.le_refl _, Nat.le_refl _, Nat.zero_le _, Nat.zero_le _, Nat.zero_le _, h⟩
theorem md_m : CkR mdM 0 0 := Or.inr (Or.inr ⟨by decide +kernel, by decide +kernel, by decide +kernel⟩)
theorem enc_m {L : List UInt8} {e : Int} (h : EncR mdM L e) : e = 0 ∧ L.length = 13 := by
  have hf : (fileB (mcOf mdM)).length = 13 := by
    rw [file_len]
    decide +kernel
  rcases h with ⟨⟨n, a1⟩, a2, a3⟩ | ⟨a1, a2, a3, a4⟩ | ⟨a1, a2, a3, a4⟩
  · exact absurd (ck_one (mc_same rfl) a1 md_m).2 a2
  · rw [hf] at a2; exact absurd a2 (by decide)
  · exact ⟨a3, by rw [a4, hf]⟩
theorem enc_back {b L : List UInt8} {y : Md} {e : Int} (hd : decD b = .ok (mcOf y)) (hk : CkR y 0 0) (h : EncR y L e) : e = 0 ∧ L = b ∧ b.length ≤ 1048576 := by
  obtain ⟨_, h2, h3⟩ := dec_iff.1 hd
  rcases h with ⟨⟨n, a1⟩, a2, a3⟩ | ⟨a1, a2, a3, a4⟩ | ⟨a1, a2, a3, a4⟩
  · exact absurd (ck_one (mc_same rfl) a1 hk).2 a2
  · rw [← h2] at a2; omega
  · exact ⟨a3, by rw [a4, ← h2], h3⟩
set_option maxRecDepth 20000 in
set_option maxHeartbeats 8000000 in
theorem walkModuleForm {w : World} (hWE : WordsAt w ∧ ErrAt w) (ao : Option Addr) (c : Nat) (b : List UInt8) (hb : BAt w ao b) (hnn : ao = none → b = []) (hz : b.length ≤ 140737488351232) (hc : b.length ≤ c) :
    Calls Tryz.prog 6 #[.slice ao b.length c] w fun e w' => e = .returned (.bool true) ∧ Below w.heap.size w w' := by
  obtain ⟨hW, hE⟩ := hWE
  have HWD := hide hW
  have HED := hide hE
  have HD := hide hb
  have HCC := hide hc
  have HZ := hide hz
  clear hb hW hE hnn hc hz
  go_enter Tryz.func6, Tryz.ntmps6
  have HCK : Hid (Calls Tryz.prog 10 #[.agg #[.string ⟨#[109]⟩, .slice none 0 0, .slice none 0 0, .slice none 0 0]] w fun e w' => ∃ vb L er, e = .returned (.tuple #[vb, .int .i64 er]) ∧ OwnB w' w.heap.size vb L ∧ EncR mdM L er ∧ Below w.heap.size w w') := hide (Encode16_any mdM w (nil_ok w _ (by decide)).ok (Nat.le_refl _) (Nat.le_refl _) (unhide HWD) (unhide HED) (fun x hx => by cases hx))
  go_wp2_with fail
  refine (unhide HCK).mono ?_
  rintro e W1 ⟨vb, L, er, rfl, ho, hr, hb⟩
  obtain ⟨rfl, hl⟩ := enc_m hr
  obtain ⟨sa, sc, hv, hsa, hsc⟩ := own_capM ho
  subst hv
  have HB1 := hide hb
  have HD1 := hide ((unhide HD).below' hb)
  have HWD1 := hide ((unhide HWD).below hb)
  have HED1 := hide ((unhide HED).below hb)
  have t13 : (((L.length : Nat) : Int) == 13) = true := by rw [beq_iff_eq]; omega
  have HDC := hide (Decode16_any ao c b W1 (unhide HD1) (unhide HCC) (unhide HWD1) (unhide HED1))
  clear HCK ho hr hb hl hsa hsc HD HWD HED
  go_wp2_with fail
  refine (unhide HDC).mono ?_
  rintro e W2 ⟨y, at_, er, rfl, hdr, hmr, hb⟩
  have al2 : Below W2.heap.size W2 (W2.alloc (.cells #[.string y.nm, .slice y.ao y.T.length y.cap, .slice y.fo y.F.length y.fc, .slice y.co y.C.length y.cc] 26)) := (Below.refl _ _).alloc (Nat.le_refl _) _
  have hb2 := hb.trans (al2.mono hb.size)
  have HB2 := hide ((unhide HB1).trans (hb2.mono (unhide HB1).size))
  have HD2 := hide ((unhide HD1).below' hb2)
  have HWD2 := hide ((unhide HWD1).below hb2)
  have HED2 := hide ((unhide HED1).below hb2)
  have HY2 := hide (hmr.below al2)
  have HZ2 : Hid (Bx (W2.alloc (.cells #[.string y.nm, .slice y.ao y.T.length y.cap, .slice y.fo y.F.length y.fc, .slice y.co y.C.length y.cc] 26)) W2.heap.size 26 #[.string y.nm, .slice y.ao y.T.length y.cap, .slice y.fo y.F.length y.fc, .slice y.co y.C.length y.cc]) := hide (heap_alloc_new W2 _)
  have HDR := hide hdr
  clear HDC hdr hmr hb al2 hb2 HB1 HD1 HWD1 HED1 t13
  go_upto_region 5 with fail
  generalize (W2.alloc (.cells #[.string y.nm, .slice y.ao y.T.length y.cap, .slice y.fo y.F.length y.fc, .slice y.co y.C.length y.cc] 26)) = W3 at HB2 HD2 HWD2 HED2 HY2 HZ2 ⊢
  generalize W2.heap.size = g at HZ2 ⊢
  by_cases he : er = 0
  · subst he
    obtain ⟨h1, h2, rfl⟩ := (unhide HDR).ok rfl
    have HEB := hide (fun L e (h : EncR y L e) => enc_back h1 h2 h)
    have m0 := (unhide HZ2).c 0 rfl
    have m1 := (unhide HZ2).c 1 rfl
    have m2 := (unhide HZ2).c 2 rfl
    have m3 := (unhide HZ2).c 3 rfl
    have HCK := hide (Encode16_any y W3 (unhide HY2).ok (unhide HY2).capT (unhide HY2).capF (unhide HWD2) (unhide HED2) (unhide HY2).nil)
    clear h1 h2 HDR
    go_wp2_with fail
    refine (unhide HCK).mono ?_
    rintro e W4 ⟨v2, L2, e2, rfl, ho2, h2, hb⟩
    obtain ⟨rfl, rfl, hl⟩ := unhide HEB _ _ h2
    have HB4 := hide ((unhide HB2).trans (hb.mono (unhide HB2).size))
    obtain ⟨sb, sd, hv, hsb, hsd⟩ := own_capM ho2
    subst hv
    have HEQ := hide (Equal_any sb ao sd c L2 L2 W4 hsb ((unhide HD2).below' hb) (by unfold maxLen; omega) (by unfold maxLen; omega))
    have t3 : (L2 == L2) = true := by simp
    rw [t3] at HEQ
    clear HCK ho2 h2 hb hl hsb hsd t3 HEB m0 m1 m2 m3 HB2 HD2 HWD2 HED2
    go_wp2_with fail
    refine (unhide HEQ).mono ?_
    rintro e W6 ⟨rfl, q, rfl⟩
    have hd : Below W4.heap.size W4 (W4.drewN q) := below_drew _ _
    have HB5 := hide ((unhide HB4).trans (hd.mono (unhide HB4).size))
    clear hd HEQ
    generalize W4.drewN q = W7 at HB5 ⊢
    go_wp2
    go_ret
    exact ⟨rfl, unhide HB5⟩
  · have t0 : (er == 0) = false := beq_f he
    have hy := (unhide HDR).no he
    have m0 := (unhide HZ2).c 0 rfl
    have m1 := (unhide HZ2).c 1 rfl
    have m2 := (unhide HZ2).c 2 rfl
    have m3 := (unhide HZ2).c 3 rfl
    have HS : Hid (Calls Tryz.prog 13 #[.agg #[.string y.nm, .slice y.ao y.T.length y.cap, .slice y.fo y.F.length y.fc, .slice y.co y.C.length y.cc], .agg #[.string ⟨#[]⟩, .slice none 0 0, .slice none 0 0, .slice none 0 0]] W3 fun e w' => e = .returned (.bool true) ∧ Below W3.heap.size W3 w') := hide (by
      have h := SameModule_any y mdZ W3 (unhide HY2).ok (nil_ok W3 _ (by decide)).ok
      have e : mdEq y mdZ = true := by rw [hy]; decide +kernel
      rw [e] at h
      exact h)
    clear hy HDR he
    go_wp2_with fail
    refine (unhide HS).mono ?_
    rintro e W4 ⟨rfl, hb⟩
    have HB4 := hide ((unhide HB2).trans (hb.mono (unhide HB2).size))
    clear hb
    go_wp2
    go_ret
    exact ⟨rfl, unhide HB4⟩
end Go.Proofs.YtibgfdjopikafaaGreatDoor
