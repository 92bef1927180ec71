/-
  Texts of contracts and plain lemmas, one behind another; each says at its head what it holds.
-/
import Derived.Test.YtkcnkfhdbjiggaaSu4
import Derived.Test.YtkcnkfhdbjiggaaJSQ
import Derived.Test.YtkcnkfhdbjiggaaJSW
/-
  The store's Put once more: what it tells lies in memory of its own, apart from the image.
-/
namespace Go.Proofs.Ytkcnkfhdbjiggaa
open Go.RowKit
set_option maxRecDepth 20000

/-- The writes of a call, in blocks of their own, none of them the image's. -/
def WrS (W : World) (base : Nat) (v iv : Value) (at_ : Nat) (A C : List UInt8) : Prop :=
  ∃ wb ha hc fa fc, v = .slice (some ⟨wb, 0, none⟩) 2 2 ∧ base ≤ wb ∧ Bx W wb 66 #[.int .i64 (at_ : Int), .slice ha A.length hc, .int .i64 (at_ : Int), .slice fa C.length fc] ∧ OwnB W base (.slice ha A.length hc) A ∧ OwnB W base (.slice fa C.length fc) C ∧
    (∀ q, (Value.slice ha A.length hc).ownBlock = some q → (Value.slice fa C.length fc).ownBlock ≠ some q) ∧ (∀ q, iv.ownBlock = some q → (Value.slice ha A.length hc).ownBlock ≠ some q ∧ (Value.slice fa C.length fc).ownBlock ≠ some q)
theorem WrS.at {W : World} {base : Nat} {v iv : Value} {at_ : Nat} {A C : List UInt8} (h : WrS W base v iv at_ A C) : WrAt W base v at_ A C := by
  obtain ⟨wb, ha, hc, fa, fc, h1, h2, h3, h4, h5, h6, h7⟩ := h
  exact ⟨wb, ha, hc, fa, fc, h1, h2, h3, h4, h5⟩
theorem WrS.of {W W' : World} {base base' : Nat} {v iv : Value} {at_ : Nat} {A C : List UInt8} (h : WrS W base v iv at_ A C) (h' : WrAt W' base' v at_ A C) (hk : ∀ wb, v = .slice (some ⟨wb, 0, none⟩) 2 2 → W'.heap[wb]? = W.heap[wb]?) : WrS W' base' v iv at_ A C := by
  obtain ⟨wb, ha, hc, fa, fc, h1, h2, h3, h4, h5, h6, h7⟩ := h
  obtain ⟨wb', ha', hc', fa', fc', g1, g2, g3, g4, g5⟩ := h'
  have e : wb = wb' := by rw [h1] at g1; injection g1 with g1; injection g1 with g1; injection g1
  subst e
  have h9 := hk wb h1
  unfold Bx at h3 g3
  rw [h9, h3] at g3
  injection g3 with g3
  injection g3 with g3 _
  simp only [Array.mk.injEq, List.cons.injEq, Value.slice.injEq, true_and, and_true] at g3
  obtain ⟨⟨rfl, rfl⟩, rfl, rfl⟩ := g3
  refine ⟨wb, ha, hc, fa, fc, h1, g2, ?_, g4, g5, h6, h7⟩
  unfold Bx
  rw [h9]
  exact h3
theorem WrS.below {W W' : World} {base : Nat} {v iv : Value} {at_ : Nat} {A C : List UInt8} (h : WrS W base v iv at_ A C) (hb : Below W.heap.size W W') : WrS W' base v iv at_ A C := by
  obtain ⟨wb, ha, hc, fa, fc, h1, h2, h3, h4, h5, h6, h7⟩ := h
  exact ⟨wb, ha, hc, fa, fc, h1, h2, h3.below hb, h4.below hb, h5.below hb, h6, h7⟩
theorem WrS.mono' {W : World} {base base' : Nat} {v iv : Value} {at_ : Nat} {A C : List UInt8} (h : WrS W base v iv at_ A C) (hb : base' ≤ base) : WrS W base' v iv at_ A C := by
  obtain ⟨wb, ha, hc, fa, fc, h1, h2, h3, h4, h5, h6, h7⟩ := h
  exact ⟨wb, ha, hc, fa, fc, h1, by omega, h3, h4.mono hb, h5.mono hb, h6, h7⟩
theorem WrS.keepST {W W' : World} {base B g : Nat} {iv kv v iv2 : Value} {I : List UInt8} {K : List Ke} {at_ : Nat} {A C : List UInt8} (h : WrS W base v iv2 at_ A C) (hs : IsSt W B g iv kv I K) (hk : Kept (ST g kv) W W') : WrS W' base v iv2 at_ A C := by
  obtain ⟨wb, ha, hc, fa, fc, h1, h2, h3, h4, h5, h6, h7⟩ := h
  have n1 : ∀ {q : Nat} {cs : Array Value} {t : TypeId}, W.heap[q]? = some (.cells cs t (0, 0)) → t ≠ 71 → t ≠ 83 → ¬ ST g kv q := fun hq e1 e2 e => by
    rcases e with e | e
    · exact ty_ne hq hs.row e1 e
    · obtain ⟨cur, hcur⟩ := hs.kty _ e
      exact ty_ne hq hcur e2 rfl
  have n2 : ∀ {u : Value} {l : List UInt8}, OwnB W base u l → ∀ q, u.ownBlock = some q → ¬ ST g kv q := fun ho q e => by
    rcases ho.2 with ⟨h1, _⟩ | ⟨g', cap, cur, hv, hbg, hh, r⟩
    · rw [h1] at e; cases e
    · rw [hv] at e
      injection e with e
      subst e
      exact n1 hh (by decide) (by decide)
  exact ⟨wb, ha, hc, fa, fc, h1, h2, by unfold Bx; rw [hk.block wb h3.lt (n1 h3 (by decide) (by decide))]; exact h3, h4.keep hk (n2 h4), h5.keep hk (n2 h5), h6, h7⟩
def LaySep (w : World) (B g : Nat) (iv kv : Value) (I : List UInt8) (K : List Ke) (R : List UInt8) (e : Ending) (w' : World) : Prop :=
  (1048576 < I.length + R.length + 1 ∧ e = .returned (.tuple #[.slice none 0 0, .int .i64 7]) ∧ w' = w) ∨
  (I.length + R.length + 1 ≤ 1048576 ∧ ∃ v iv', e = .returned (.tuple #[v, .int .i64 0]) ∧ IsSt w' B g iv' kv (I ++ R) K ∧ WrS w' w.heap.size v iv' I.length ([0] ++ R.drop 1 ++ [0]) [R.getD 0 0] ∧ Kept (SI g iv) w w' ∧ (∀ q, iv'.ownBlock = some q → iv.ownBlock = some q ∨ w.heap.size ≤ q))
set_option maxHeartbeats 4000000 in
theorem lay_sep {w : World} {B g : Nat} {iv kv : Value} {I : List UInt8} {K : List Ke} {rb : Nat} {R : List UInt8} (H : IsSt w B g iv kv I K) (hI : I.length ≤ 1048576) (hR : OwnB w B (.slice (some ⟨rb, 0, none⟩) R.length R.length) R) (hn : iv.ownBlock ≠ some rb) (h2 : 2 ≤ R.length) (hm : R.length ≤ 5000) :
    Calls Try.prog 44 #[.pointer (some ⟨g, 0, none⟩), .slice (some ⟨rb, 0, none⟩) R.length R.length] w (LaySep w B g iv kv I K R) := by
  obtain ⟨ia, ic, rfl, -, -, -⟩ := H.img.atN
  have c0 := H.c0
  by_cases hbig : 1048576 < I.length + R.length + 1
  · have i1 : (1048576 : Int) < ((I.length : Nat) : Int) + ((R.length : Nat) : Int) + 1 := by omega
    clear H hR
    go_enter Try.func44, Try.ntmps44
    go_wp2
    go_ret2
    exact Or.inl ⟨hbig, rfl, rfl⟩
  · have i1 : ¬ (1048576 : Int) < ((I.length : Nat) : Int) + ((R.length : Nat) : Int) + 1 := by omega
    have HH := hide H
    have HR := hide hR
    have hrbt : BAt w (some ⟨rb, 0, none⟩) R := by
      obtain ⟨a', c', e', h', _⟩ := hR.atN
      injection e' with e' _ _
      rw [e']
      exact h'
    have HSB : Hid (SrcB w (.slice (some ⟨rb, 0, none⟩) R.length R.length) R) := hide (Or.inr ⟨_, _, rfl, hrbt⟩)
    have hBw : B ≤ w.heap.size := by have := H.low; have := H.gl; omega
    clear H hR hrbt
    go_enter Try.func44, Try.ntmps44
    go_wp2_with (at_builtin; refine wpList_appendB rfl (.tmp 23) (.tmp 24) rfl B (.slice ia I.length ic) I rfl (unhide HH).img (.slice (some ⟨rb, 0, none⟩) R.length R.length) R rfl (unhide HSB) ?z6 ?z4 ?_)
    case z6 => omega
    try (case z4 => exact hBw)
    intro v1 w1 hO1 hG1 hF1 hF2
    clear hF2
    have HF1 := hide hF1
    have hk1 : Kept (fun k => (Value.slice ia I.length ic).ownBlock = some k) w w1 := (Kept.of_grown hG1).mono (fun k _ e => e.symm)
    have hX := (unhide HH).setI hO1 hk1
    have HX := hide hX
    have hcw : w1.cell? ⟨g, 0, none⟩ = some (.slice ia I.length ic) := by
      have := (unhide HH).c0
      rwa [← World.cell?_of_block (hk1.block g (unhide HH).gl (unhide HH).ig)] at this
    have hfw : w1.frozen? ⟨g, 0, none⟩ = false := frozen_of_row _ _ _ _ _ ((hk1.block g (unhide HH).gl (unhide HH).ig).trans (unhide HH).row)
    have hR2 : OwnB (w1.setCell ⟨g, 0, none⟩ v1) B (.slice (some ⟨rb, 0, none⟩) R.length R.length) R := ((unhide HR).keep hk1 (fun q e e2 => hn (by rw [e2]; exact e.symm))).keep (kept_setCell w1 ⟨g, 0, none⟩ v1) (fun q e e2 => by
      have h3 : q = g := e2
      subst h3
      rcases (unhide HR).2 with ⟨h1, _⟩ | ⟨g', cap, cur, hv, hbg, hh, r⟩
      · cases h1
      · rw [hv] at e
        injection e with e
        subst e
        exact ty_ne hh (unhide HH).row (by decide) rfl)
    have HR2 := hide hR2
    have HSZ : Hid (w.heap.size ≤ (w1.setCell ⟨g, 0, none⟩ v1).heap.size) := hide (by have := hG1.size; simp [World.setCell]; omega)
    obtain ⟨va, vc, rfl, -⟩ := hO1.at
    obtain ⟨q, hq⟩ : ∃ q, q = (I ++ R).length := ⟨_, rfl⟩
    rw [← hq] at HX HR2 HSZ HF1 ⊢
    clear hX hO1 hG1 hF1 hk1 hR2 hq HSB HR
    go_upto_region 5 with fail
    generalize (w1.setCell ⟨g, 0, none⟩ (.slice va q vc)) = W at HX HR2 HSZ ⊢
    obtain ⟨Z1, hZ1⟩ : ∃ Z1, Z1 = W.alloc (.cells #[.int .u8 0] 5) := ⟨_, rfl⟩
    obtain ⟨Z2, hZ2⟩ : ∃ Z2, Z2 = Z1.alloc (.cells #[.int .u8 0] 5) := ⟨_, rfl⟩
    obtain ⟨Z3, hZ3⟩ : ∃ Z3, Z3 = Z2.alloc (.cells #[.slice (some ⟨W.heap.size, 0, none⟩) 1 1, .slice (some ⟨rb, 1, none⟩) (R.length - 1) (R.length - 1), .slice (some ⟨W.heap.size + 1, 0, none⟩) 1 1] 25) := ⟨_, rfl⟩
    have s1 : Z1.heap.size = W.heap.size + 1 := by rw [hZ1]; simp
    have s2 : Z2.heap.size = W.heap.size + 2 := by rw [hZ2]; simp [s1]
    have s3 : Z3.heap.size = W.heap.size + 3 := by rw [hZ3]; simp [s2]
    have b1 : Below W.heap.size W Z1 := by rw [hZ1]; exact (Below.refl _ _).alloc (Nat.le_refl _) _
    have b2 : Below Z1.heap.size Z1 Z2 := by rw [hZ2]; exact (Below.refl _ _).alloc (Nat.le_refl _) _
    have b3 : Below Z2.heap.size Z2 Z3 := by rw [hZ3]; exact (Below.refl _ _).alloc (Nat.le_refl _) _
    have b13 : Below W.heap.size W Z3 := (b1.trans (b2.mono b1.size)).trans (b3.mono (by omega))
    have o1 : OwnB Z1 W.heap.size (.slice (some ⟨W.heap.size, 0, none⟩) 1 1) [0] := by rw [hZ1]; exact one_own W 0
    have o2 : OwnB Z2 Z1.heap.size (.slice (some ⟨Z1.heap.size, 0, none⟩) 1 1) [0] := by rw [hZ2]; exact one_own Z1 0
    have hrd : (R.drop 1).length = R.length - 1 := List.length_drop ..
    have hrb3 : BAt Z3 (some ⟨rb, 0, none⟩) R := by
      obtain ⟨a', c', e', h', _⟩ := ((unhide HR2).below b13).atN
      injection e' with e' _ _
      rw [e']
      exact h'
    have HTh : Hid (Three Z3 (W.heap.size + 2) (some ⟨W.heap.size, 0, none⟩) (some ⟨rb, 1, none⟩) (some ⟨W.heap.size + 1, 0, none⟩) 1 (R.length - 1) 1 [0] (R.drop 1) [0]) := hide (by
      refine ⟨?_, ?_, ?_, ?_⟩
      · rw [hrd, hZ3, ← s2]; exact heap_alloc_new Z2 _
      · exact ((o1.below (b2.mono (Nat.le_refl _))).below (b3.mono (Nat.le_refl _))).src
      · refine Or.inr ⟨_, _, rfl, ?_⟩
        have := BAt.sub hrb3 1 (R.length - 1)
        rwa [List.take_of_length_le (by rw [hrd]; exact Nat.le_refl _)] at this
      · have := (o2.below b3).src
        rwa [s1] at this)
    have HCo := hide (Concat_any (unhide HTh) (by rw [hrd]; simp; omega) (by simp))
    have HIV : Hid (∀ z, (Value.slice va q vc).ownBlock = some z → z < W.heap.size) := hide (fun z e => (World.ownsRow.lt (unhide HX).1.img z e).2)
    have HS3 := hide ((unhide HX).1.below b13)
    have HR3 := hide ((unhide HR2).below b13)
    have HS2 : Hid (w.heap.size ≤ Z3.heap.size ∧ Below W.heap.size W Z3) := hide ⟨by have := unhide HSZ; omega, b13⟩
    have HK := hide (unhide HX).2
    have HZ : Hid (Z3 = ((W.alloc (.cells #[.int .u8 0] 5)).alloc (.cells #[.int .u8 0] 5)).alloc (.cells #[.slice (some ⟨W.heap.size, 0, none⟩) 1 1, .slice (some ⟨rb, 1, none⟩) (R.length - 1) (R.length - 1), .slice (some ⟨W.heap.size + 1, 0, none⟩) 1 1] 25)) := hide (by rw [hZ3, hZ2, hZ1])
    have j1 : (1 : Int) ≤ ((R.length : Nat) : Int) := by omega
    have j2 : ¬ R.length = 1 := by omega
    have j3 : (0 : Int) < ((R.length : Nat) : Int) := by omega
    clear hZ1 hZ2 hZ3 s1 s2 s3 b1 b2 b3 b13 o1 o2 hrb3 hrd HX HR2 HTh c0 hcw hfw
    go_wp2_with fail
    rw [← unhide HZ]
    refine (unhide HCo).mono ?_
    rintro e W4 ⟨v4, rfl, hO4, hb4⟩
    have HSEP : Hid (∀ z, v4.ownBlock = some z → W.heap.size ≤ z ∧ z < W4.heap.size) := hide (fun z e => ⟨Nat.le_trans (unhide HS2).2.size (World.ownsRow.lt hO4 z e).1, (World.ownsRow.lt hO4 z e).2⟩)
    have HWW : Hid (W.heap.size ≤ W4.heap.size) := hide (Nat.le_trans (unhide HS2).2.size hb4.size)
    have HO4 := hide (hO4.mono (unhide HS2).1)
    have HS4 := hide ((unhide HS3).below hb4)
    have HK4 := hide ((unhide HK).trans (Kept.of_below ((unhide HS2).2.trans (hb4.mono (unhide HS2).2.size)) (SI g (.slice ia I.length ic))) (fun _ _ h => h) (fun _ _ h => h))
    have HSZ4 : Hid (w.heap.size ≤ W4.heap.size) := hide (Nat.le_trans (unhide HS2).1 hb4.size)
    have hr0 : W4.cell? ⟨rb, 0, none⟩ = some (.int .u8 (at8 R 0)) := by
      obtain ⟨a', c', e', h', _⟩ := ((unhide HR3).below hb4).atN
      injection e' with e' _ _
      obtain ⟨b', off', e2, hc⟩ := h' 0 (by omega)
      rw [← e'] at e2
      injection e2 with e2
      injection e2 with e2 e3
      subst e2 e3
      exact hc
    obtain ⟨ha, hc, hv4, -⟩ := hO4.at
    obtain ⟨A, hA⟩ : ∃ A, A = [0] ++ R.drop 1 ++ [0] := ⟨_, rfl⟩
    rw [← hA] at hv4 HO4
    subst hv4
    have HA := hide hA
    have hal : Below W4.heap.size W4 ((W4.alloc (.cells #[.int .u8 (at8 R 0)] 5)).alloc (.cells #[.int .i64 ((I.length : Nat) : Int), .slice ha A.length hc, .int .i64 ((I.length : Nat) : Int), .slice (some ⟨W4.heap.size, 0, none⟩) 1 1] 66)) := ((Below.refl _ _).alloc (Nat.le_refl _) _).alloc (by simp) _
    have HFN : Hid (Bx ((W4.alloc (.cells #[.int .u8 (at8 R 0)] 5)).alloc (.cells #[.int .i64 ((I.length : Nat) : Int), .slice ha A.length hc, .int .i64 ((I.length : Nat) : Int), .slice (some ⟨W4.heap.size, 0, none⟩) 1 1] 66)) (W4.heap.size + 1) 66 #[.int .i64 ((I.length : Nat) : Int), .slice ha A.length hc, .int .i64 ((I.length : Nat) : Int), .slice (some ⟨W4.heap.size, 0, none⟩) 1 1]) := hide (by
      have := heap_alloc_new (W4.alloc (.cells #[.int .u8 (at8 R 0)] 5)) (.cells #[.int .i64 ((I.length : Nat) : Int), .slice ha A.length hc, .int .i64 ((I.length : Nat) : Int), .slice (some ⟨W4.heap.size, 0, none⟩) 1 1] 66)
      rw [World.size_alloc] at this
      exact this)
    have HFO : Hid (OwnB ((W4.alloc (.cells #[.int .u8 (at8 R 0)] 5)).alloc (.cells #[.int .i64 ((I.length : Nat) : Int), .slice ha A.length hc, .int .i64 ((I.length : Nat) : Int), .slice (some ⟨W4.heap.size, 0, none⟩) 1 1] 66)) W4.heap.size (.slice (some ⟨W4.heap.size, 0, none⟩) 1 1) [R.getD 0 0]) := hide ((show OwnB (W4.alloc (.cells #[.int .u8 (at8 R 0)] 5)) W4.heap.size (.slice (some ⟨W4.heap.size, 0, none⟩) 1 1) [R.getD 0 0] from one_own W4 (R.getD 0 0)).below ((Below.refl _ _).alloc (Nat.le_refl _) _))
    have HS5 := hide ((unhide HS4).below hal)
    have HO5 := hide ((unhide HO4).below hal)
    have HK5 := hide ((unhide HK4).trans (Kept.of_below hal (SI g (.slice ia I.length ic))) (fun _ _ h => h) (fun _ _ h => h))
    clear hO4 hb4 hA hal HCo HS3 HR3 HS2 HK HZ HSZ HS4 HK4 HO4
    go_wp2
    go_ret2
    refine Or.inr ⟨by omega, _, _, rfl, unhide HS5, ?_, unhide HK5, unhide HF1⟩
    rw [← unhide HA]
    exact ⟨W4.heap.size + 1, ha, hc, some ⟨W4.heap.size, 0, none⟩, 1, rfl, by have := unhide HSZ4; omega, unhide HFN, unhide HO5, (unhide HFO).mono (unhide HSZ4), fun z e e2 => (by
      have h1 := (unhide HSEP z e).2
      have e3 : W4.heap.size = z := Option.some.inj e2
      omega), fun z e => ⟨fun e2 => (by
      have h1 := (unhide HSEP z e2).1
      have h2 := unhide HIV z e
      omega), fun e2 => (by
      have h2 := unhide HIV z e
      have h3 := unhide HWW
      have e3 : W4.heap.size = z := Option.some.inj e2
      omega)⟩⟩
def OpSep (w : World) (B g : Nat) (iv kv : Value) (I : List UInt8) (K : List Ke) (code : Int) (R : List UInt8) (K' : List Ke) (e : Ending) (w' : World) : Prop :=
  (∃ c, code = c ∧ e = .returned (.tuple #[.slice none 0 0, .int .i64 c]) ∧ c ≠ 0 ∧ IsSt w' B g iv kv I K ∧ Below w.heap.size w w') ∨
  (code = 0 ∧ ∃ v iv' kv', e = .returned (.tuple #[v, .int .i64 0]) ∧ IsSt w' B g iv' kv' (I ++ R) K' ∧ WrS w' w.heap.size v iv' I.length (hidB R) [R.getD 0 0] ∧ Kept (SA g iv kv) w w' ∧ (∀ q, iv'.ownBlock = some q → iv.ownBlock = some q ∨ w.heap.size ≤ q))
set_option maxHeartbeats 1000000 in
theorem PutS_sep {w : World} {B g : Nat} {iv kv : Value} {I : List UInt8} {K : List Ke} (s : ByteArray) (ao : Option Addr) (c : Nat) (m : List UInt8) (H : IsSt w B g iv kv I K) (hI : I.length ≤ 1048576) (hok : OkK K) (hs : s.size ≤ maxLen) (hb : BAt w ao m) (hn : ao = none → m = [] ∧ c = 0) (hml : m.length ≤ 140737488355328) :
    Calls Try.prog 22 #[.pointer (some ⟨g, 0, none⟩), .string s, .slice ao m.length c] w (OpSep w B g iv kv I K (putE I K s m) (recK s m) (putK I K s m)) := by
  have HM := hide (isMadeS_yes H)
  have HN := hide (IsName_any s w hs)
  have HK := hide (mayKeep_anyS s w H hok.asc (by have := hok.few; omega))
  have HH := hide H
  have HBt := hide hb
  have HNN := hide hn
  have hBw : B ≤ w.heap.size := by have := H.low; have := H.gl; omega
  clear H hb hn
  unfold putE
  cases h1 : nameB s
  · rw [h1] at HN
    rw [if_pos rfl]
    have HS9 := HH
    have HB9 := hide (Below.refl w.heap.size w)
    go_enter Try.func22, Try.ntmps22
    go_wp2_with fail
    refine (unhide HM).mono ?_
    rintro e W ⟨rfl, hw⟩
    rw [hw]
    clear hw W
    go_wp2_with fail
    refine (unhide HN).mono ?_
    rintro e W ⟨rfl, hw⟩
    rw [hw]
    clear hw W
    go_wp2
    go_ret2
    exact Or.inl ⟨_, rfl, rfl, by decide, unhide HS9, unhide HB9⟩
  · rw [h1] at HN
    rw [if_neg (by decide)]
    have HNB := hide h1
    clear h1
    by_cases h2 : 4096 < m.length
    · rw [if_pos h2]
      have i2 : (4096 : Int) < ((m.length : Nat) : Int) := by omega
      have HS9 := HH
      have HB9 := hide (Below.refl w.heap.size w)
      go_enter Try.func22, Try.ntmps22
      go_wp2_with fail
      refine (unhide HM).mono ?_
      rintro e W ⟨rfl, hw⟩
      rw [hw]
      clear hw W
      go_wp2_with fail
      refine (unhide HN).mono ?_
      rintro e W ⟨rfl, hw⟩
      rw [hw]
      clear hw W
      go_wp2
      go_ret2
      exact Or.inl ⟨_, rfl, rfl, by decide, unhide HS9, unhide HB9⟩
    · rw [if_neg h2]
      have i2 : ¬ (4096 : Int) < ((m.length : Nat) : Int) := by omega
      cases h3 : (hasN (kNm K) s || decide (K.length < 16))
      · rw [h3] at HK
        rw [if_pos rfl]
        go_enter Try.func22, Try.ntmps22
        go_wp2_with fail
        refine (unhide HM).mono ?_
        rintro e W ⟨rfl, hw⟩
        rw [hw]
        clear hw W
        go_wp2_with fail
        refine (unhide HN).mono ?_
        rintro e W ⟨rfl, hw⟩
        rw [hw]
        clear hw W
        go_wp2_with fail
        refine (unhide HK).mono ?_
        rintro e W ⟨rfl, hb⟩
        have HS9 := hide ((unhide HH).below hb)
        have HB9 := hide hb
        clear hb HK
        go_wp2
        go_ret2
        exact Or.inl ⟨_, rfl, rfl, by decide, unhide HS9, unhide HB9⟩
      · rw [h3] at HK
        rw [if_neg (by decide)]
        clear h3
        obtain ⟨cd, hcd⟩ : ∃ cd : Int, cd = (if 1048576 < I.length + (recK s m).length + 1 then 7 else 0) := ⟨_, rfl⟩
        rw [← hcd]
        have HCD := hide hcd
        clear hcd
        go_enter Try.func22, Try.ntmps22
        go_wp2_with fail
        refine (unhide HM).mono ?_
        rintro e W ⟨rfl, hw⟩
        rw [hw]
        clear hw W
        go_wp2_with fail
        refine (unhide HN).mono ?_
        rintro e W ⟨rfl, hw⟩
        rw [hw]
        clear hw W
        go_wp2_with fail
        refine (unhide HK).mono ?_
        rintro e W ⟨rfl, hb⟩
        have HS1 := hide ((unhide HH).below hb)
        have HB1 := hide hb
        have HRc := hide (keepRec_any s ao c m W (unhide HNB) ((unhide HBt).below' hb) (unhide HNN) (by omega))
        clear hb HK
        go_wp2_with fail
        refine (unhide HRc).mono ?_
        rintro e W1 ⟨rb, rfl, hO, hb⟩
        have hRl : (recK s m).length = s.size + 4 + m.length := recK_len s m
        have h24 := name_24 (unhide HNB)
        obtain ⟨R, hR⟩ : ∃ R, R = recK s m := ⟨_, rfl⟩
        rw [← hR] at hO hRl
        rw [← hR]
        have HRR := hide hR
        have HS2 := hide ((unhide HS1).below hb)
        have HB2 := hide ((unhide HB1).trans (hb.mono (unhide HB1).size))
        have hR2 : 2 ≤ R.length := by omega
        have hR5 : R.length ≤ 5000 := by omega
        have hRm : m.length ≤ R.length := by omega
        clear hRl
        have HLy := hide (lay_sep (unhide HS2) hI ((hO.mono (unhide HB1).size).mono hBw) (fun e => by have h1 := (World.ownsRow.lt (unhide HS1).img _ e).2; have h3 := (World.ownsRow.lt hO rb rfl).1; omega) (by omega) (by omega))
        clear hO hb HRc hR HS1 HB1
        go_wp2_with fail
        refine (unhide HLy).mono ?_
        rintro e W2 hc
        rcases hc with ⟨hbig, rfl, hw⟩ | ⟨hfit, v3, iv3, rfl, hst3, hwr3, hk3, hF3⟩
        · rw [hw]
          clear hw HLy
          have HS9 := HS2
          have HB9 := HB2
          have HC9 : Hid (cd = 7) := hide (by rw [unhide HCD, ← unhide HRR, if_pos hbig])
          go_wp2
          go_ret2
          exact Or.inl ⟨7, unhide HC9, rfl, by decide, unhide HS9, unhide HB9⟩
        · have HC9 : Hid (cd = 0) := hide (by rw [unhide HCD, ← unhide HRR, if_neg (by omega)])
          have HS3 := hide hst3
          have HW3 := hide (WrS.mono' hwr3 (unhide HB2).size)
          have HK3 := hide hk3
          have HF3 : Hid (∀ q, iv3.ownBlock = some q → iv.ownBlock = some q ∨ w.heap.size ≤ q) := hide (fun q e => (hF3 q e).imp id (fun h => Nat.le_trans (unhide HB2).size h))
          clear hst3 hwr3 hk3 hF3 HLy
          have c0 := (unhide HS3).c0
          obtain ⟨ia3, ic3, hiv3, -, -, -⟩ := (unhide HS3).img.atN
          rw [hiv3] at c0
          rw [List.length_append] at c0
          have HCl := hide (strClone_any s W2 (by omega))
          go_wp2_with fail
          refine (unhide HCl).mono ?_
          rintro e W4 ⟨rfl, hb4⟩
          have HS4 := hide ((unhide HS3).below hb4)
          have HW4 := hide ((unhide HW3).below hb4)
          have HK4 := hide ((unhide HK3).trans (Kept.of_below hb4 (SI g iv)) (fun _ _ h => h) (fun _ _ h => h))
          clear hb4 HCl
          obtain ⟨fr, hfr⟩ : ∃ fr : Nat, fr = I.length + R.length - m.length := ⟨_, rfl⟩
          have HC1 : Hid (((I.length : Nat) : Int) + ((R.length : Nat) : Int) - ((m.length : Nat) : Int) = (fr : Int)) := hide (by omega)
          have HC2 : Hid (((I.length : Nat) : Int) + ((R.length : Nat) : Int) = ((I.length + R.length : Nat) : Int)) := hide (by omega)
          have HKe := hide (keep_anyS ⟨s, fr, I.length + R.length⟩ (unhide HS4) hok.asc (by have := hok.few; omega))
          have HFR := hide hfr
          clear hfr hiv3
          go_wp2_with fail
          rw [unhide HC1, unhide HC2]
          refine (unhide HKe).mono ?_
          rintro e W5 ⟨kv5, rfl, hst5, hk5⟩
          have HS5 := hide hst5
          have HW5 := hide ((unhide HW4).keepST (unhide HS4) hk5)
          have HK5 : Hid (Kept (SA g iv kv) W1 W5) := hide ((unhide HK4).trans hk5 (fun k _ h => h.elim Or.inl (fun h => Or.inr (Or.inl h))) (fun k _ h => h.elim Or.inl (fun h => Or.inr (Or.inr h))))
          clear hst5 hk5 HKe
          go_wp2
          go_ret2
          refine Or.inr ⟨unhide HC9, _, iv3, kv5, rfl, ?_, ?_, (Kept.of_below (unhide HB2) (SA g iv kv)).trans (unhide HK5) (fun _ _ h => h) (fun _ _ h => h), unhide HF3⟩
          · unfold putK
            rw [← unhide HRR, ← unhide HFR]
            exact unhide HS5
          · rw [← unhide HRR]
            exact unhide HW5
end Go.Proofs.Ytkcnkfhdbjiggaa

/-
  A store, the document's state and a shelf of what was told, side by side: what keeps them apart, call by call.
-/
namespace Go.Proofs.Ytkcnkfhdbjiggaa
open Go.RowKit
set_option maxRecDepth 20000

theorem Tw.keepQ {S : Nat → Prop} {w w1 : World} {B g : Nat} {iv kv xi lv : Value} {I : List UInt8} {K : List Ke} {L : List Rk} (h : Tw w B g iv kv xi lv I K L) (hk : Kept S w w1) (hg : ¬ S g) (hi : ∀ q, iv.ownBlock = some q → ¬ S q) (hv : ∀ q, kv.ownBlock = some q → ¬ S q) (hx : ∀ q, xi.ownBlock = some q → ¬ S q) (hl : ∀ q, lv.ownBlock = some q → ¬ S q)
    (hL : ∀ x ∈ L, ∀ q, (Value.slice x.ba x.bs.length x.bc).ownBlock = some q → ¬ S q) : Tw w1 B g iv kv xi lv I K L :=
  ⟨h.st.keep hk hg hi hv, h.xo.keep hk hx, h.lo.keep hk hl, fun x hx => (h.rk x hx).keep hk (hL x hx), h.sm, h.ok, h.en, h.big, h.s1, h.s2⟩
/-- A block of another type than all of a store's and a state's is none of them. -/
theorem Tw.keepTy {S : Nat → Prop} {w w1 : World} {B g : Nat} {iv kv xi lv : Value} {I : List UInt8} {K : List Ke} {L : List Rk} (h : Tw w B g iv kv xi lv I K L) (hk : Kept S w w1) (hS : ∀ q cs t, S q → w.heap[q]? = some (.cells cs t (0, 0)) → t ≠ 71 ∧ t ≠ 5 ∧ t ≠ 83 ∧ t ≠ 73) : Tw w1 B g iv kv xi lv I K L := by
  refine h.keepQ hk (fun e => (hS _ _ _ e h.st.row).1 rfl) (fun q e e2 => ?_) (fun q e e2 => ?_) (fun q e e2 => ?_) (fun q e e2 => ?_) (fun x hx q e e2 => ?_)
  · obtain ⟨cur, hh⟩ := h.st.ity _ e
    exact (hS _ _ _ e2 hh).2.1 rfl
  · obtain ⟨cur, hh⟩ := h.st.kty _ e
    exact (hS _ _ _ e2 hh).2.2.1 rfl
  · obtain ⟨cur, hh⟩ := own_tyB h.xo e
    exact (hS _ _ _ e2 hh).2.1 rfl
  · obtain ⟨cur, hh⟩ := own_tyR h.lo e
    exact (hS _ _ _ e2 hh).2.2.2 rfl
  · obtain ⟨cur, hh⟩ := own_tyB (h.rk x hx) e
    exact (hS _ _ _ e2 hh).2.1 rfl
structure OwI (w : World) (B g : Nat) (iv kv xi lv : Value) (I : List UInt8) (K : List Ke) (L : List Rk) (sp : Nat) (sv : Value) (its : List Value) : Prop where
  tw : Tw w B g iv kv xi lv I K L
  sh : Sh w sp sv its
  it : Its w its 0
  ap : Apart its
  se : ∀ q, InIts its q → B ≤ q ∧ iv.ownBlock ≠ some q ∧ xi.ownBlock ≠ some q ∧ ∀ x ∈ L, (Value.slice x.ba x.bs.length x.bc).ownBlock ≠ some q
  lo : B ≤ sp
  ls : ∀ q, sv.ownBlock = some q → B ≤ q
theorem OwI.lt {w : World} {B g : Nat} {iv kv xi lv : Value} {I : List UInt8} {K : List Ke} {L : List Rk} {sp : Nat} {sv : Value} {its : List Value} (h : OwI w B g iv kv xi lv I K L sp sv its) {q : Nat} (hq : InIts its q) : q < w.heap.size ∧ ∃ cur, w.heap[q]? = some (.cells cur 5 (0, 0)) := by
  obtain ⟨v, hv, e⟩ := hq
  obtain ⟨i, hi⟩ := List.getElem?_of_mem hv
  obtain ⟨l, ho, -, -⟩ := h.it i v hi
  exact ⟨(World.ownsRow.lt ho q e).2, own_tyB ho e⟩
theorem OwI.Bw {w : World} {B g : Nat} {iv kv xi lv : Value} {I : List UInt8} {K : List Ke} {L : List Rk} {sp : Nat} {sv : Value} {its : List Value} (h : OwI w B g iv kv xi lv I K L sp sv its) : B ≤ w.heap.size := by
  have := h.lo
  have := h.sh.pl
  omega
theorem OwI.below {w w' : World} {B g : Nat} {iv kv xi lv : Value} {I : List UInt8} {K : List Ke} {L : List Rk} {sp : Nat} {sv : Value} {its : List Value} (h : OwI w B g iv kv xi lv I K L sp sv its) (hb : Below w.heap.size w w') : OwI w' B g iv kv xi lv I K L sp sv its :=
  ⟨h.tw.below hb, h.sh.below hb, h.it.keep (Kept.of_below hb (fun _ => False)) (fun _ _ _ _ _ h => h), h.ap, h.se, h.lo, h.ls⟩
/-- What a list that is to go on the shelf must keep from. -/
def Free (B : Nat) (iv xi : Value) (L : List Rk) (its : List Value) (u : Value) : Prop := ∀ q, u.ownBlock = some q → B ≤ q ∧ ¬ InIts its q ∧ iv.ownBlock ≠ some q ∧ xi.ownBlock ≠ some q ∧ ∀ x ∈ L, (Value.slice x.ba x.bs.length x.bc).ownBlock ≠ some q
theorem OwI.free {w w' : World} {B g : Nat} {iv kv xi lv : Value} {I : List UInt8} {K : List Ke} {L : List Rk} {sp : Nat} {sv : Value} {its : List Value} (h : OwI w B g iv kv xi lv I K L sp sv its) {u : Value} {l : List UInt8} (ho : OwnB w' w.heap.size u l) : Free B iv xi L its u := by
  intro q e
  have h1 := (World.ownsRow.lt ho q e).1
  have h0 := h.Bw
  refine ⟨by omega, fun hi => ?_, fun e2 => ?_, fun e2 => ?_, fun x hx e2 => ?_⟩
  · have := (h.lt hi).1
    omega
  · have := (World.ownsRow.lt h.tw.st.img q e2).2
    omega
  · have := (World.ownsRow.lt h.tw.xo q e2).2
    omega
  · have := (World.ownsRow.lt (h.tw.rk x hx) q e2).2
    omega
theorem OwI.shS {w : World} {B g : Nat} {iv kv xi lv : Value} {I : List UInt8} {K : List Ke} {L : List Rk} {sp : Nat} {sv : Value} {its : List Value} (h : OwI w B g iv kv xi lv I K L sp sv its) : ∀ q cs t, (q = sp ∨ sv.ownBlock = some q) → w.heap[q]? = some (.cells cs t (0, 0)) → t ≠ 71 ∧ t ≠ 5 ∧ t ≠ 83 ∧ t ≠ 73 ∧ t ≠ 28 ∧ t ≠ 31 ∧ t ≠ 66 := by
  intro q cs t e hh
  rcases e with e | e
  · rw [e, h.sh.box] at hh
    injection hh with hh
    injection hh with _ hh _
    subst hh
    decide
  · obtain ⟨c, hc⟩ := rowType h.sh.row q e
    rw [hc] at hh
    injection hh with hh
    injection hh with _ hh _
    subst hh
    decide
theorem OwI.push {w w' : World} {B g : Nat} {iv kv xi lv : Value} {I : List UInt8} {K : List Ke} {L : List Rk} {sp : Nat} {sv sv' : Value} {its : List Value} {u : Value} {m : List UInt8} (h : OwI w B g iv kv xi lv I K L sp sv its) (hk : Kept (fun k => k = sp ∨ sv.ownBlock = some k) w w') (hs : Sh w' sp sv' (its ++ [u]))
    (hf : ∀ k, sv'.ownBlock = some k → sv.ownBlock = some k ∨ w.heap.size ≤ k) (ho : OwnB w 0 u m) (hm : m.length ≤ 140737488351232) (hu : Free B iv xi L its u) : OwI w' B g iv kv xi lv I K L sp sv' (its ++ [u]) := by
  have hb : ∀ {B : Nat} {u : Value} {m : List UInt8}, OwnB w B u m → OwnB w' B u m := fun ho => ho.keep hk (fun k hk' e => by
    rcases e with e | e
    · exact (h.sh.bytes ho).1 (by rw [hk', e])
    · exact (h.sh.bytes ho).2 k hk' e)
  have hin : ∀ k, InIts (its ++ [u]) k → InIts its k ∨ u.ownBlock = some k := by
    rintro k ⟨x, hx, e⟩
    rw [List.mem_append] at hx
    rcases hx with hx | hx
    · exact .inl ⟨x, hx, e⟩
    · simp at hx; subst hx; exact .inr e
  refine ⟨h.tw.keepTy hk (fun q cs t e hh => ⟨(h.shS q cs t e hh).1, (h.shS q cs t e hh).2.1, (h.shS q cs t e hh).2.2.1, (h.shS q cs t e hh).2.2.2.1⟩), hs, ?_, ?_, ?_, h.lo, ?_⟩
  · intro j x hx
    by_cases e : j < its.length
    · rw [List.getElem?_append_left e] at hx
      obtain ⟨l', h1, h2, _⟩ := h.it j x hx
      exact ⟨l', hb h1, h2, fun h => by omega⟩
    · rw [List.getElem?_append_right (by omega)] at hx
      have e2 : j - its.length = 0 := by
        have := (List.getElem?_eq_some_iff.1 hx).1
        simp at this
        omega
      rw [e2] at hx
      simp at hx
      subst hx
      exact ⟨m, hb ho, hm, fun h => by omega⟩
  · have hget : ∀ (j : Nat) x, (its ++ [u])[j]? = some x → its[j]? = some x ∨ (j = its.length ∧ x = u) := by
      intro j x hx
      by_cases e : j < its.length
      · rw [List.getElem?_append_left e] at hx; exact .inl hx
      · rw [List.getElem?_append_right (by omega)] at hx
        have e2 : j - its.length = 0 := by
          have := (List.getElem?_eq_some_iff.1 hx).1
          simp at this
          omega
        rw [e2] at hx
        simp at hx
        exact .inr ⟨by omega, hx.symm⟩
    intro i j a b ha hb' hne k hka hkb
    rcases hget i a ha with ha2 | ⟨ha2, ha3⟩
    · rcases hget j b hb' with hb2 | ⟨hb2, hb3⟩
      · exact h.ap i j a b ha2 hb2 hne k hka hkb
      · exact (hu k (hb3 ▸ hkb)).2.1 (mem_inits ha2 hka)
    · rcases hget j b hb' with hb2 | ⟨hb2, hb3⟩
      · exact (hu k (ha3 ▸ hka)).2.1 (mem_inits hb2 hkb)
      · omega
  · intro q hq
    rcases hin q hq with hq | hq
    · exact h.se q hq
    · exact ⟨(hu q hq).1, (hu q hq).2.2⟩
  · intro q e
    rcases hf q e with e | e
    · exact h.ls q e
    · have := h.Bw
      omega
theorem OwI.shBelow {w0 w w' : World} {B g : Nat} {iv kv xi lv : Value} {I : List UInt8} {K : List Ke} {L : List Rk} {sp : Nat} {sv : Value} {its : List Value} (h : OwI w B g iv kv xi lv I K L sp sv its) (hk : Kept (fun k => k = sp ∨ sv.ownBlock = some k) w w') (hb : Below B w0 w) : Below B w0 w' :=
  hk.below hb h.Bw (fun k e => by
    rcases e with e | e
    · rw [e]; exact h.lo
    · exact h.ls k e)
/-- Behind a change of a box of the document's. -/
theorem OwI.keepTy {S : Nat → Prop} {w w1 : World} {B g : Nat} {iv kv xi lv : Value} {I : List UInt8} {K : List Ke} {L : List Rk} {sp : Nat} {sv : Value} {its : List Value} (h : OwI w B g iv kv xi lv I K L sp sv its) (hk : Kept S w w1) (hS : ∀ q cs t, S q → w.heap[q]? = some (.cells cs t (0, 0)) → t ≠ 71 ∧ t ≠ 5 ∧ t ≠ 83 ∧ t ≠ 73 ∧ t ≠ 59 ∧ t ≠ 25) : OwI w1 B g iv kv xi lv I K L sp sv its := by
  refine ⟨h.tw.keepTy hk (fun q cs t e hh => ⟨(hS q cs t e hh).1, (hS q cs t e hh).2.1, (hS q cs t e hh).2.2.1, (hS q cs t e hh).2.2.2.1⟩), h.sh.keep hk (fun e => (hS _ _ _ e h.sh.box).2.2.2.2.1 rfl) (fun k e e2 => ?_), h.it.keep hk (fun i v hi k e e2 => ?_), h.ap, h.se, h.lo, h.ls⟩
  · obtain ⟨c, hc⟩ := rowType h.sh.row k e
    exact (hS _ _ _ e2 hc).2.2.2.2.2 rfl
  · obtain ⟨cur, hc⟩ := (h.lt (mem_inits hi e)).2
    exact (hS _ _ _ e2 hc).2.1 rfl
/-- Behind a Put that both took. -/
theorem OwI.put {w w1 w2 : World} {B g : Nat} {iv kv xi lv iv' kv' xi' lv' : Value} {I I' : List UInt8} {K K' : List Ke} {L L' : List Rk} {sp : Nat} {sv : Value} {its : List Value} (h : OwI w B g iv kv xi lv I K L sp sv its)
    (ht : Tw w2 B g iv' kv' xi' lv' I' K' L') (hk : Kept (SA g iv kv) w w1) (hF : ∀ q, iv'.ownBlock = some q → iv.ownBlock = some q ∨ w.heap.size ≤ q) (hb : Below w1.heap.size w1 w2)
    (hx : ∀ q, xi'.ownBlock = some q → w1.heap.size ≤ q) (hn : NewR w2 w1.heap.size L L') : OwI w2 B g iv' kv' xi' lv' I' K' L' sp sv its := by
  have hsp : ¬ SA g iv kv sp := by
    rintro (e | e | e)
    · exact ty_ne h.sh.box h.tw.st.row (by decide) e
    · obtain ⟨cur, hh⟩ := h.tw.st.ity _ e
      exact ty_ne h.sh.box hh (by decide) rfl
    · obtain ⟨cur, hh⟩ := h.tw.st.kty _ e
      exact ty_ne h.sh.box hh (by decide) rfl
  have hsv : ∀ q, sv.ownBlock = some q → ¬ SA g iv kv q := by
    intro q e
    obtain ⟨c, hc⟩ := rowType h.sh.row q e
    rintro (e | e | e)
    · exact ty_ne hc h.tw.st.row (by decide) e
    · obtain ⟨cur, hh⟩ := h.tw.st.ity _ e
      exact ty_ne hc hh (by decide) rfl
    · obtain ⟨cur, hh⟩ := h.tw.st.kty _ e
      exact ty_ne hc hh (by decide) rfl
  refine ⟨ht, (h.sh.keep hk hsp hsv).below hb, (h.it.keep hk (fun i v hi q e => ?_)).keep (Kept.of_below hb (fun _ => False)) (fun _ _ _ _ _ h => h), h.ap, ?_, h.lo, h.ls⟩
  · obtain ⟨hl, c, hc⟩ := h.lt (mem_inits hi e)
    rintro (e2 | e2 | e2)
    · exact ty_ne hc h.tw.st.row (by decide) e2
    · exact (h.se q (mem_inits hi e)).2.1 e2
    · obtain ⟨cur, hh⟩ := h.tw.st.kty _ e2
      exact ty_ne hc hh (by decide) rfl
  · intro q hq
    have hl := (h.lt hq).1
    have hs := hk.size
    refine ⟨(h.se q hq).1, fun e => ?_, fun e => ?_, fun x hx' e => ?_⟩
    · rcases hF q e with e | e
      · exact (h.se q hq).2.1 e
      · omega
    · have := hx q e
      omega
    · rcases hn x hx' with hx' | hx'
      · exact (h.se q hq).2.2.2 x hx' e
      · have := (World.ownsRow.lt hx' q e).1
        omega
/-- Lists that wait to go on the shelf. -/
structure Pend (w : World) (B : Nat) (iv xi : Value) (L : List Rk) (its WL : List Value) : Prop where
  ow : ∀ (i : Nat) u, WL[i]? = some u → ∃ l : List UInt8, OwnB w 0 u l ∧ l.length ≤ 140737488351232
  ap : Apart WL
  ne : ∀ u ∈ WL, Free B iv xi L its u
theorem Pend.nil (w : World) (B : Nat) (iv xi : Value) (L : List Rk) (its : List Value) : Pend w B iv xi L its [] := ⟨fun i u h => by simp at h, fun i j a b h => by simp at h, fun u h => by cases h⟩
theorem Pend.keepTy {S : Nat → Prop} {w w1 : World} {B : Nat} {iv xi : Value} {L : List Rk} {its WL : List Value} (h : Pend w B iv xi L its WL) (hk : Kept S w w1) (hS : ∀ q cs t, S q → w.heap[q]? = some (.cells cs t (0, 0)) → t ≠ 5) : Pend w1 B iv xi L its WL :=
  ⟨fun i u hi => by
    obtain ⟨l, ho, hl⟩ := h.ow i u hi
    exact ⟨l, ho.keep hk (fun q e e2 => by
      obtain ⟨cur, hh⟩ := own_tyB ho e
      exact hS _ _ _ e2 hh rfl), hl⟩, h.ap, h.ne⟩
theorem Pend.below {w w1 : World} {B : Nat} {iv xi : Value} {L : List Rk} {its WL : List Value} (h : Pend w B iv xi L its WL) (hb : Below w.heap.size w w1) : Pend w1 B iv xi L its WL :=
  h.keepTy (Kept.of_below hb (fun _ => False)) (fun _ _ _ e => e.elim)
theorem Pend.free {w : World} {B : Nat} {iv xi : Value} {L : List Rk} {its WL : List Value} (h : Pend w B iv xi L its WL) {j : Nat} {u : Value} (hj : WL[j]? = some u) : Free B iv xi L (its ++ WL.take j) u := by
  intro q e
  have h1 := h.ne u (List.mem_of_getElem? hj) q e
  refine ⟨h1.1, ?_, h1.2.2⟩
  rintro ⟨x, hx, ex⟩
  rcases List.mem_append.1 hx with hx | hx
  · exact h1.2.1 ⟨x, hx, ex⟩
  · obtain ⟨i, hi⟩ := List.getElem?_of_mem hx
    rw [List.getElem?_take] at hi
    split at hi
    · exact h.ap i j x u hi hj (by omega) q ex e
    · cases hi
/-- The two writes of a Put that was taken, waiting. -/
theorem OwI.pend {w w1 w2 : World} {B g : Nat} {iv kv xi lv iv' xi' : Value} {I : List UInt8} {K : List Ke} {L L' : List Rk} {sp : Nat} {sv : Value} {its : List Value} (h : OwI w B g iv kv xi lv I K L sp sv its) {ha fa : Option Addr} {hc fc : Nat} {A C : List UInt8}
    (h4 : OwnB w1 w.heap.size (.slice ha A.length hc) A) (h5 : OwnB w1 w.heap.size (.slice fa C.length fc) C) (hA : A.length ≤ 140737488351232) (hC : C.length ≤ 140737488351232)
    (h6 : ∀ q, (Value.slice ha A.length hc).ownBlock = some q → (Value.slice fa C.length fc).ownBlock ≠ some q) (h7 : ∀ q, iv'.ownBlock = some q → (Value.slice ha A.length hc).ownBlock ≠ some q ∧ (Value.slice fa C.length fc).ownBlock ≠ some q)
    (hb : Below w1.heap.size w1 w2) (hx : ∀ q, xi'.ownBlock = some q → w1.heap.size ≤ q) (hn : NewR w2 w1.heap.size L L') : Pend w2 B iv' xi' L' its [.slice ha A.length hc, .slice fa C.length fc] := by
  have hB := h.Bw
  have free : ∀ {u : Value} {l : List UInt8}, OwnB w1 w.heap.size u l → (∀ q, iv'.ownBlock = some q → u.ownBlock ≠ some q) → Free B iv' xi' L' its u := by
    intro u l ho hi q e
    obtain ⟨q1, q2⟩ := World.ownsRow.lt ho q e
    refine ⟨by omega, fun hq => ?_, fun e2 => hi q e2 e, fun e2 => ?_, fun x hxm e2 => ?_⟩
    · have := (h.lt hq).1
      omega
    · have := hx q e2
      omega
    · rcases hn x hxm with hxm | hxm
      · have := (World.ownsRow.lt (h.tw.rk x hxm) q e2).2
        omega
      · have := (World.ownsRow.lt hxm q e2).1
        omega
  refine ⟨fun i u hi => ?_, fun i j a b ha' hb' hne k e1 e2 => ?_, fun u hu => ?_⟩
  · match i with
    | 0 => simp at hi; subst hi; exact ⟨A, (h4.below hb).mono (Nat.zero_le _), hA⟩
    | 1 => simp at hi; subst hi; exact ⟨C, (h5.below hb).mono (Nat.zero_le _), hC⟩
    | n + 2 => simp at hi
  · match i, j with
    | 0, 0 => exact hne rfl
    | 0, 1 => simp at ha' hb'; subst ha' hb'; exact h6 k e1 e2
    | 1, 0 => simp at ha' hb'; subst ha' hb'; exact h6 k e2 e1
    | 1, 1 => exact hne rfl
    | n + 2, _ => simp at ha'
    | _, n + 2 => simp at hb'
  · simp at hu
    rcases hu with rfl | rfl
    · exact free h4 (fun q e => (h7 q e).1)
    · exact free h5 (fun q e => (h7 q e).2)
/-- Where the writes lie that wait. -/
def WsAt (W : World) (la : Option Addr) (WL : List Value) : Prop := ∀ (i : Nat) u, WL[i]? = some u → ∃ wb n, la = some ⟨wb, 0, none⟩ ∧ W.cell? ⟨wb, i * 2, none⟩ = some (.int .i64 n) ∧ W.cell? ⟨wb, i * 2 + 1, none⟩ = some u ∧ ∃ a n c, u = .slice a n c
end Go.Proofs.Ytkcnkfhdbjiggaa
