/-
  The contract of the store's lay: a record behind the image, and the two writes; or that it is full.
-/
import Derived.Test.YtkcnkfhdbjiggaaSu2
namespace Go.Proofs.Ytkcnkfhdbjiggaa
open Go.RowKit
set_option maxRecDepth 20000

/-- Two writes lie in a row of their own: at the same place, of bytes A and of bytes C; all in memory from base on. -/
def WrAt (W : World) (base : Nat) (v : Value) (at_ : Nat) (A C : List UInt8) : Prop :=
  ∃ wb ha hc fa fc, v = .slice (some ⟨wb, 0, none⟩) 2 2 ∧ base ≤ wb ∧ Bx W wb 66 #[.int .i64 (at_ : Int), .slice ha A.length hc, .int .i64 (at_ : Int), .slice fa C.length fc] ∧ OwnB W base (.slice ha A.length hc) A ∧ OwnB W base (.slice fa C.length fc) C
theorem WrAt.below {W W' : World} {base : Nat} {v : Value} {at_ : Nat} {A C : List UInt8} (h : WrAt W base v at_ A C) (hb : Below W.heap.size W W') : WrAt W' base v at_ A C := by
  obtain ⟨wb, ha, hc, fa, fc, h1, h2, h3, h4, h5⟩ := h
  exact ⟨wb, ha, hc, fa, fc, h1, h2, h3.below hb, h4.below hb, h5.below hb⟩
/-- The blocks that its image's change turns. -/
def SI (g : Nat) (iv : Value) (k : Nat) : Prop := k = g ∨ iv.ownBlock = some k
theorem IsSt.setI {w w1 : World} {B g : Nat} {iv kv iv' : Value} {I I' : List UInt8} {K : List Ke} (h : IsSt w B g iv kv I K) (hO : OwnB w1 B iv' I') (hk : Kept (fun k => iv.ownBlock = some k) w w1) : IsSt (w1.setCell ⟨g, 0, none⟩ iv') B g iv' kv I' K ∧ Kept (SI g iv) w (w1.setCell ⟨g, 0, none⟩ iv') := by
  have hrow : w1.heap[g]? = some (.cells #[iv, kv, .bool true] 71 (0, 0)) := by rw [hk.block g h.gl h.ig]; exact h.row
  have hs := kept_setCell w1 ⟨g, 0, none⟩ iv'
  have hin : iv'.ownBlock ≠ some g := fun e => by
    rcases hO.2 with ⟨h1, _⟩ | ⟨g', cap, cur, hv, hbg, hh, r⟩
    · rw [h1] at e; cases e
    · rw [hv] at e
      injection e with e
      subst e
      rw [hrow] at hh
      injection hh with hh
      injection hh with _ hh _
      exact absurd hh (by decide)
  refine ⟨⟨?_, h.low, hO.keep hs (fun k e e2 => hin (by rw [e, e2])), (h.kep.keep hk (fun k e e2 => h.ik k e2 e)).keep hs (fun k e e2 => h.kg (by rw [e, e2]))⟩, hk.trans hs (fun k _ e => Or.inr e) (fun k _ e => Or.inl e)⟩
  rw [setCell_eq_setRow w1 g 0 #[iv, kv, .bool true] 71 (0, 0) iv' hrow]
  exact setRow_heap w1 g _ _ _ _ hrow
def LayPost (w : World) (B g : Nat) (iv kv : Value) (I : List UInt8) (K : List Ke) (R : List UInt8) (e : Ending) (w' : World) : Prop :=
  (1048576 < I.length + R.length + 1 ∧ e = .returned (.tuple #[.slice none 0 0, .int .i64 7]) ∧ w' = w) ∨
  (I.length + R.length + 1 ≤ 1048576 ∧ ∃ v iv', e = .returned (.tuple #[v, .int .i64 0]) ∧ IsSt w' B g iv' kv (I ++ R) K ∧ WrAt w' w.heap.size v I.length ([0] ++ R.drop 1 ++ [0]) [R.getD 0 0] ∧ Kept (SI g iv) w w' ∧ (∀ q, iv'.ownBlock = some q → iv.ownBlock = some q ∨ w.heap.size ≤ q))
theorem one_own (w : World) (x : UInt8) : OwnB (w.alloc (.cells #[.int .u8 (x.toNat : Int)] 5)) w.heap.size (.slice (some ⟨w.heap.size, 0, none⟩) 1 1) [x] :=
  ⟨rfl, Or.inr ⟨w.heap.size, 1, _, rfl, Nat.le_refl _, heap_alloc_new w _, Nat.le_refl _, by decide, rfl, rfl⟩⟩
set_option maxHeartbeats 4000000 in
theorem lay_any {w : World} {B g : Nat} {iv kv : Value} {I : List UInt8} {K : List Ke} {rb : Nat} {R : List UInt8} (H : IsSt w B g iv kv I K) (hI : I.length ≤ 1048576) (hR : OwnB w B (.slice (some ⟨rb, 0, none⟩) R.length R.length) R) (hn : iv.ownBlock ≠ some rb) (h2 : 2 ≤ R.length) (hm : R.length ≤ 5000) :
    Calls Try.prog 44 #[.pointer (some ⟨g, 0, none⟩), .slice (some ⟨rb, 0, none⟩) R.length R.length] w (LayPost w B g iv kv I K R) := by
  obtain ⟨ia, ic, rfl, -, -, -⟩ := H.img.atN
  have c0 := H.c0
  by_cases hbig : 1048576 < I.length + R.length + 1
  · have i1 : (1048576 : Int) < ((I.length : Nat) : Int) + ((R.length : Nat) : Int) + 1 := by omega
    clear H hR
    go_enter Try.func44, Try.ntmps44
    go_wp2
    go_ret2
    exact Or.inl ⟨hbig, rfl, rfl⟩
  · have i1 : ¬ (1048576 : Int) < ((I.length : Nat) : Int) + ((R.length : Nat) : Int) + 1 := by omega
    have HH := hide H
    have HR := hide hR
    have hrbt : BAt w (some ⟨rb, 0, none⟩) R := by
      obtain ⟨a', c', e', h', _⟩ := hR.atN
      injection e' with e' _ _
      rw [e']
      exact h'
    have HSB : Hid (SrcB w (.slice (some ⟨rb, 0, none⟩) R.length R.length) R) := hide (Or.inr ⟨_, _, rfl, hrbt⟩)
    have hBw : B ≤ w.heap.size := by have := H.low; have := H.gl; omega
    clear H hR hrbt
    go_enter Try.func44, Try.ntmps44
    go_wp2_with (at_builtin; refine wpList_appendB rfl (.tmp 23) (.tmp 24) rfl B (.slice ia I.length ic) I rfl (unhide HH).img (.slice (some ⟨rb, 0, none⟩) R.length R.length) R rfl (unhide HSB) ?z6 ?z4 ?_)
    case z6 => omega
    try (case z4 => exact hBw)
    intro v1 w1 hO1 hG1 hF1 hF2
    clear hF2
    have HF1 := hide hF1
    have hk1 : Kept (fun k => (Value.slice ia I.length ic).ownBlock = some k) w w1 := (Kept.of_grown hG1).mono (fun k _ e => e.symm)
    have hX := (unhide HH).setI hO1 hk1
    have HX := hide hX
    have hcw : w1.cell? ⟨g, 0, none⟩ = some (.slice ia I.length ic) := by
      have := (unhide HH).c0
      rwa [← World.cell?_of_block (hk1.block g (unhide HH).gl (unhide HH).ig)] at this
    have hfw : w1.frozen? ⟨g, 0, none⟩ = false := frozen_of_row _ _ _ _ _ ((hk1.block g (unhide HH).gl (unhide HH).ig).trans (unhide HH).row)
    have hR2 : OwnB (w1.setCell ⟨g, 0, none⟩ v1) B (.slice (some ⟨rb, 0, none⟩) R.length R.length) R := ((unhide HR).keep hk1 (fun q e e2 => hn (by rw [e2]; exact e.symm))).keep (kept_setCell w1 ⟨g, 0, none⟩ v1) (fun q e e2 => by
      have h3 : q = g := e2
      subst h3
      rcases (unhide HR).2 with ⟨h1, _⟩ | ⟨g', cap, cur, hv, hbg, hh, r⟩
      · cases h1
      · rw [hv] at e
        injection e with e
        subst e
        exact ty_ne hh (unhide HH).row (by decide) rfl)
    have HR2 := hide hR2
    have HSZ : Hid (w.heap.size ≤ (w1.setCell ⟨g, 0, none⟩ v1).heap.size) := hide (by have := hG1.size; simp [World.setCell]; omega)
    obtain ⟨va, vc, rfl, -⟩ := hO1.at
    obtain ⟨q, hq⟩ : ∃ q, q = (I ++ R).length := ⟨_, rfl⟩
    rw [← hq] at HX HR2 HSZ HF1 ⊢
    clear hX hO1 hG1 hF1 hk1 hR2 hq HSB HR
    go_upto_region 5 with fail
    generalize (w1.setCell ⟨g, 0, none⟩ (.slice va q vc)) = W at HX HR2 HSZ ⊢
    obtain ⟨Z1, hZ1⟩ : ∃ Z1, Z1 = W.alloc (.cells #[.int .u8 0] 5) := ⟨_, rfl⟩
    obtain ⟨Z2, hZ2⟩ : ∃ Z2, Z2 = Z1.alloc (.cells #[.int .u8 0] 5) := ⟨_, rfl⟩
    obtain ⟨Z3, hZ3⟩ : ∃ Z3, Z3 = Z2.alloc (.cells #[.slice (some ⟨W.heap.size, 0, none⟩) 1 1, .slice (some ⟨rb, 1, none⟩) (R.length - 1) (R.length - 1), .slice (some ⟨W.heap.size + 1, 0, none⟩) 1 1] 25) := ⟨_, rfl⟩
    have s1 : Z1.heap.size = W.heap.size + 1 := by rw [hZ1]; simp
    have s2 : Z2.heap.size = W.heap.size + 2 := by rw [hZ2]; simp [s1]
    have s3 : Z3.heap.size = W.heap.size + 3 := by rw [hZ3]; simp [s2]
    have b1 : Below W.heap.size W Z1 := by rw [hZ1]; exact (Below.refl _ _).alloc (Nat.le_refl _) _
    have b2 : Below Z1.heap.size Z1 Z2 := by rw [hZ2]; exact (Below.refl _ _).alloc (Nat.le_refl _) _
    have b3 : Below Z2.heap.size Z2 Z3 := by rw [hZ3]; exact (Below.refl _ _).alloc (Nat.le_refl _) _
    have b13 : Below W.heap.size W Z3 := (b1.trans (b2.mono b1.size)).trans (b3.mono (by omega))
    have o1 : OwnB Z1 W.heap.size (.slice (some ⟨W.heap.size, 0, none⟩) 1 1) [0] := by rw [hZ1]; exact one_own W 0
    have o2 : OwnB Z2 Z1.heap.size (.slice (some ⟨Z1.heap.size, 0, none⟩) 1 1) [0] := by rw [hZ2]; exact one_own Z1 0
    have hrd : (R.drop 1).length = R.length - 1 := List.length_drop ..
    have hrb3 : BAt Z3 (some ⟨rb, 0, none⟩) R := by
      obtain ⟨a', c', e', h', _⟩ := ((unhide HR2).below b13).atN
      injection e' with e' _ _
      rw [e']
      exact h'
    have HTh : Hid (Three Z3 (W.heap.size + 2) (some ⟨W.heap.size, 0, none⟩) (some ⟨rb, 1, none⟩) (some ⟨W.heap.size + 1, 0, none⟩) 1 (R.length - 1) 1 [0] (R.drop 1) [0]) := hide (by
      refine ⟨?_, ?_, ?_, ?_⟩
      · rw [hrd, hZ3, ← s2]; exact heap_alloc_new Z2 _
      · exact ((o1.below (b2.mono (Nat.le_refl _))).below (b3.mono (Nat.le_refl _))).src
      · refine Or.inr ⟨_, _, rfl, ?_⟩
        have := BAt.sub hrb3 1 (R.length - 1)
        rwa [List.take_of_length_le (by rw [hrd]; exact Nat.le_refl _)] at this
      · have := (o2.below b3).src
        rwa [s1] at this)
    have HCo := hide (Concat_any (unhide HTh) (by rw [hrd]; simp; omega) (by simp))
    have HS3 := hide ((unhide HX).1.below b13)
    have HR3 := hide ((unhide HR2).below b13)
    have HS2 : Hid (w.heap.size ≤ Z3.heap.size ∧ Below W.heap.size W Z3) := hide ⟨by have := unhide HSZ; omega, b13⟩
    have HK := hide (unhide HX).2
    have HZ : Hid (Z3 = ((W.alloc (.cells #[.int .u8 0] 5)).alloc (.cells #[.int .u8 0] 5)).alloc (.cells #[.slice (some ⟨W.heap.size, 0, none⟩) 1 1, .slice (some ⟨rb, 1, none⟩) (R.length - 1) (R.length - 1), .slice (some ⟨W.heap.size + 1, 0, none⟩) 1 1] 25)) := hide (by rw [hZ3, hZ2, hZ1])
    have j1 : (1 : Int) ≤ ((R.length : Nat) : Int) := by omega
    have j2 : ¬ R.length = 1 := by omega
    have j3 : (0 : Int) < ((R.length : Nat) : Int) := by omega
    clear hZ1 hZ2 hZ3 s1 s2 s3 b1 b2 b3 b13 o1 o2 hrb3 hrd HX HR2 HTh c0 hcw hfw
    go_wp2_with fail
    rw [← unhide HZ]
    refine (unhide HCo).mono ?_
    rintro e W4 ⟨v4, rfl, hO4, hb4⟩
    have HO4 := hide (hO4.mono (unhide HS2).1)
    have HS4 := hide ((unhide HS3).below hb4)
    have HK4 := hide ((unhide HK).trans (Kept.of_below ((unhide HS2).2.trans (hb4.mono (unhide HS2).2.size)) (SI g (.slice ia I.length ic))) (fun _ _ h => h) (fun _ _ h => h))
    have HSZ4 : Hid (w.heap.size ≤ W4.heap.size) := hide (Nat.le_trans (unhide HS2).1 hb4.size)
    have hr0 : W4.cell? ⟨rb, 0, none⟩ = some (.int .u8 (at8 R 0)) := by
      obtain ⟨a', c', e', h', _⟩ := ((unhide HR3).below hb4).atN
      injection e' with e' _ _
      obtain ⟨b', off', e2, hc⟩ := h' 0 (by omega)
      rw [← e'] at e2
      injection e2 with e2
      injection e2 with e2 e3
      subst e2 e3
      exact hc
    obtain ⟨ha, hc, hv4, -⟩ := hO4.at
    obtain ⟨A, hA⟩ : ∃ A, A = [0] ++ R.drop 1 ++ [0] := ⟨_, rfl⟩
    rw [← hA] at hv4 HO4
    subst hv4
    have HA := hide hA
    have hal : Below W4.heap.size W4 ((W4.alloc (.cells #[.int .u8 (at8 R 0)] 5)).alloc (.cells #[.int .i64 ((I.length : Nat) : Int), .slice ha A.length hc, .int .i64 ((I.length : Nat) : Int), .slice (some ⟨W4.heap.size, 0, none⟩) 1 1] 66)) := ((Below.refl _ _).alloc (Nat.le_refl _) _).alloc (by simp) _
    have HFN : Hid (Bx ((W4.alloc (.cells #[.int .u8 (at8 R 0)] 5)).alloc (.cells #[.int .i64 ((I.length : Nat) : Int), .slice ha A.length hc, .int .i64 ((I.length : Nat) : Int), .slice (some ⟨W4.heap.size, 0, none⟩) 1 1] 66)) (W4.heap.size + 1) 66 #[.int .i64 ((I.length : Nat) : Int), .slice ha A.length hc, .int .i64 ((I.length : Nat) : Int), .slice (some ⟨W4.heap.size, 0, none⟩) 1 1]) := hide (by
      have := heap_alloc_new (W4.alloc (.cells #[.int .u8 (at8 R 0)] 5)) (.cells #[.int .i64 ((I.length : Nat) : Int), .slice ha A.length hc, .int .i64 ((I.length : Nat) : Int), .slice (some ⟨W4.heap.size, 0, none⟩) 1 1] 66)
      rw [World.size_alloc] at this
      exact this)
    have HFO : Hid (OwnB ((W4.alloc (.cells #[.int .u8 (at8 R 0)] 5)).alloc (.cells #[.int .i64 ((I.length : Nat) : Int), .slice ha A.length hc, .int .i64 ((I.length : Nat) : Int), .slice (some ⟨W4.heap.size, 0, none⟩) 1 1] 66)) W4.heap.size (.slice (some ⟨W4.heap.size, 0, none⟩) 1 1) [R.getD 0 0]) := hide ((show OwnB (W4.alloc (.cells #[.int .u8 (at8 R 0)] 5)) W4.heap.size (.slice (some ⟨W4.heap.size, 0, none⟩) 1 1) [R.getD 0 0] from one_own W4 (R.getD 0 0)).below ((Below.refl _ _).alloc (Nat.le_refl _) _))
    have HS5 := hide ((unhide HS4).below hal)
    have HO5 := hide ((unhide HO4).below hal)
    have HK5 := hide ((unhide HK4).trans (Kept.of_below hal (SI g (.slice ia I.length ic))) (fun _ _ h => h) (fun _ _ h => h))
    clear hO4 hb4 hA hal HCo HS3 HR3 HS2 HK HZ HSZ HS4 HK4 HO4
    go_wp2
    go_ret2
    refine Or.inr ⟨by omega, _, _, rfl, unhide HS5, ?_, unhide HK5, unhide HF1⟩
    rw [← unhide HA]
    exact ⟨W4.heap.size + 1, ha, hc, some ⟨W4.heap.size, 0, none⟩, 1, rfl, by have := unhide HSZ4; omega, unhide HFN, unhide HO5, (unhide HFO).mono (unhide HSZ4)⟩
end Go.Proofs.Ytkcnkfhdbjiggaa
