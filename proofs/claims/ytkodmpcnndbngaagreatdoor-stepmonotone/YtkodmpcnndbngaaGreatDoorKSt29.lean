/-
  A copy of the environment, and what step's calls answer over it; plain ends of the laws.
-/
import Derived.Test.YtkodmpcnndbngaaGreatDoorKSt21
import Derived.Test.YtkodmpcnndbngaaGreatDoorKSt22
import Derived.Test.YtkodmpcnndbngaaGreatDoorKSt23
import Derived.Test.YtkodmpcnndbngaaGreatDoorKSt24
import Derived.Test.YtkodmpcnndbngaaGreatDoorJSU
namespace Go.Proofs.YtkodmpcnndbngaaGreatDoor
open Go.RowKit
set_option maxRecDepth 20000

/-- What a copy of the environment is good for. -/
structure EnvOk (s : Sp) (v : Value) (W : World) : Prop where
  apply : ∀ (W' : World) (f : Fr), Below W.heap.size W W' → FrOk f → Calls Tryz.prog 7 #[v, .agg (frA f), .agg #[.int .i64 s.p, .int .u8 (s.op : Int), .int .i64 s.a, .int .i64 s.b]] W' fun e w' => e = .returned (frTwo (applyD { s with f := f })) ∧ Below W'.heap.size W' w'
  takes : ∀ (W' : World), Below W.heap.size W W' → Calls Tryz.prog 11 #[v, .agg #[.int .i64 s.p, .int .u8 (s.op : Int), .int .i64 s.a, .int .i64 s.b]] W' fun e w' => e = .returned (.tuple #[.int .i64 ((cntD { s with f := frZ }).1 : Int), .int .i64 (cntD { s with f := frZ }).2.2]) ∧ Below W'.heap.size W' w'
  gives : ∀ (W' : World), Below W.heap.size W W' → Calls Tryz.prog 12 #[v, .agg #[.int .i64 s.p, .int .u8 (s.op : Int), .int .i64 s.a, .int .i64 s.b]] W' fun e w' => e = .returned (.tuple #[.int .i64 ((cntD { s with f := frZ }).2.1 : Int), .int .i64 (cntD { s with f := frZ }).2.2]) ∧ Below W'.heap.size W' w'
theorem EnvOk.below {s : Sp} {v : Value} {W W' : World} (h : EnvOk s v W) (hb : Below W.heap.size W W') : EnvOk s v W' :=
  ⟨fun W2 f hB => h.apply W2 f (hb.trans (hB.mono hb.size)), fun W2 hB => h.takes W2 (hb.trans (hB.mono hb.size)), fun W2 hB => h.gives W2 (hb.trans (hB.mono hb.size))⟩
theorem envC (s : Sp) (W : World) (hT : TabAt W s.ao s.T) (hz : s.T.length * 48 ≤ 140737488351232) (hL : SgsAt W s.so s.L) (hzl : s.L.length * 32 ≤ 140737488351232) (hW : WordsAt W) (hw : WidAt W) (ho : s.op < 256) (ha : -9223372036854775808 ≤ s.a ∧ s.a ≤ 9223372036854775807) (hb : -9223372036854775808 ≤ s.b ∧ s.b ≤ 9223372036854775807) :
    Calls Tryz.prog 6 #[.agg #[.slice s.ao s.T.length s.cap, .slice s.so s.L.length s.sc, .int .i64 s.fn]] W fun e W2 => (∃ v, e = .returned v ∧ EnvOk s v W2) ∧ Below W.heap.size W W2 := by
  refine (Env_any s.ao s.cap s.T s.so s.sc s.L s.fn W hT hz hL hzl).mono ?_
  rintro e W2 ⟨ga, gc, G, va, vc, M, rfl, hG, hS, hcp, hM, hSm, hB2⟩
  have hzG : G.length * 48 ≤ 140737488351232 := by rw [hS.1]; exact hz
  have hzM : M.length * 32 ≤ 140737488351232 := by rw [hSm.1]; exact hzl
  refine ⟨⟨_, rfl, ⟨fun W' f hB hf => ?_, fun W' hB => ?_, fun W' hB => ?_⟩⟩, hB2⟩
  · have hB3 := hB2.trans (hB.mono hB2.size)
    have h := Apply_any ⟨ga, gc, G, va, vc, M, s.fn, f, s.p, s.op, s.a, s.b⟩ W' (hG.below hB) hcp (hW.below hB3) hzG (hM.below hB) hzM hf (hw.below hB3) ho ha hb
    rw [SameSp.applyD (s := { s with f := f }) (t := ⟨ga, gc, G, va, vc, M, s.fn, f, s.p, s.op, s.a, s.b⟩) ⟨hS, hSm, rfl, rfl, rfl, rfl, rfl⟩] at h
    exact h
  · have hB3 := hB2.trans (hB.mono hB2.size)
    have h := Takes_any ⟨ga, gc, G, va, vc, M, s.fn, frZ, s.p, s.op, s.a, s.b⟩ rfl W' (hG.below hB) hcp (hW.below hB3) hzG (hM.below hB) hzM (hw.below hB3) ho ha hb
    rw [SameSp.cnt (s := { s with f := frZ }) (t := ⟨ga, gc, G, va, vc, M, s.fn, frZ, s.p, s.op, s.a, s.b⟩) ⟨hS, hSm, rfl, rfl, rfl, rfl, rfl⟩] at h
    exact h
  · have hB3 := hB2.trans (hB.mono hB2.size)
    have h := Gives_any ⟨ga, gc, G, va, vc, M, s.fn, frZ, s.p, s.op, s.a, s.b⟩ rfl W' (hG.below hB) hcp (hW.below hB3) hzG (hM.below hB) hzM (hw.below hB3) ho ha hb
    rw [SameSp.cnt (s := { s with f := frZ }) (t := ⟨ga, gc, G, va, vc, M, s.fn, frZ, s.p, s.op, s.a, s.b⟩) ⟨hS, hSm, rfl, rfl, rfl, rfl, rfl⟩] at h
    exact h
theorem box_range {W : World} {g : Nat} {cs : Array Value} {t : TypeId} (h : W.heap[g]? = some (.cells cs t (0, 0))) : W.rangeAt g 0 cs.toList := fun j v hv => by
  have e := cell_of_row W g (0 + j) _ _ _ h
  rw [e, Nat.zero_add]
  simpa using hv
/-- An answer without an error: the looks ahead are met. -/
theorem apply_began {s : Sp} (hf : FrOk s.f) (h : (applyD s).2 = 0) : canD s.T s.L s.fn = true ∧ FrIs s.T.length s.f ∧ applyD s = applyS s := by
  have hb : begE s = 0 := by
    unfold applyD at h
    by_cases hb : begE s = 0
    · exact hb
    · rw [if_pos hb] at h; exact absurd h hb
  have hc : canD s.T s.L s.fn = true := by
    unfold begE at hb
    cases hc : canD s.T s.L s.fn
    · rw [if_pos hc] at hb; exact absurd hb (by decide)
    · rfl
  have hk : chkF s.T.length s.f = 0 := by
    unfold begE at hb
    rw [if_neg (by rw [hc]; decide)] at hb
    exact hb
  exact ⟨hc, frIs_of hf hk, by unfold applyD; rw [if_neg (by omega)]⟩
theorem applyD_fr (s : Sp) (hf : FrOk s.f) : FrOk (applyD s).1 := by
  by_cases h : begE s = 0
  · have h2 : applyD s = applyS s := by unfold applyD; rw [if_neg (by omega)]
    have hc : canD s.T s.L s.fn = true := by
      unfold begE at h
      cases hc : canD s.T s.L s.fn
      · rw [if_pos hc] at h; exact absurd h (by decide)
      · rfl
    have hk : chkF s.T.length s.f = 0 := by
      unfold begE at h
      rw [if_neg (by rw [hc]; decide)] at h
      exact h
    rw [h2]
    exact applyS_ok s (canD_all hc) (frIs_of hf hk)
  · unfold applyD
    rw [if_pos h]; exact frZ_ok
/-- What StepHeights wants. -/
theorem heights_end (s : Sp) (hf : FrOk s.f) (h : (applyD s).2 = 0) : (cntD { s with f := frZ }).2.2 = 0 ∧ (applyD s).1.he = s.f.he - ((cntD { s with f := frZ }).1 : Int) + ((cntD { s with f := frZ }).2.1 : Int) ∧ (applyD s).1.lo = s.f.lo ∧ chkF s.T.length (applyD s).1 = 0 ∧ (cntD { s with f := frZ }).1 ≤ 8 ∧ (cntD { s with f := frZ }).2.1 ≤ 8 ∧ 0 ≤ s.f.he ∧ s.f.he ≤ 24 := by
  obtain ⟨hc, hi, he⟩ := apply_began hf h
  have h2 : applyS s = ((applyD s).1, 0) := by rw [← he]; exact Prod.ext rfl h
  obtain ⟨h3, h4, h5, h6⟩ := heights hc hi h2
  have ht := took_of h2
  have h34 := unk_op (miss_unk ht.miss)
  rw [h3]
  have hn := nF_shape hi.shape
  exact ⟨rfl, h4, h5, h6, tk_len s (canD_all hc) s.op h34, gv_len s _ s.op h34, by omega, by omega⟩
/-- What StepMonotone wants. -/
theorem mono_end (s : Sp) (g : Fr) (hf : FrOk s.f) (hg : FrOk g) (h : (applyD { s with f := g }).2 = 0) (hs : subF s.T s.f g = true) : (applyD s).2 = 0 ∧ subF s.T (applyD s).1 (applyD { s with f := g }).1 = true := by
  obtain ⟨hc, hi, he⟩ := apply_began (s := { s with f := g }) hg h
  have hle := leF_of hf hg hs
  have h2 : applyS (spW s g) = ((applyD { s with f := g }).1, 0) := by
    show applyS { s with f := g } = _
    rw [← he]; exact Prod.ext rfl h
  obtain ⟨l, hl, hle2⟩ := monotone s (canD_all hc) hle h2
  have hl : applyS s = (l, 0) := hl
  have hb : begE s = 0 := by
    unfold begE
    rw [if_neg (by rw [show canD s.T s.L s.fn = true from hc]; decide)]
    exact frIs_chk hle.ai
  have ha : applyD s = (l, 0) := by unfold applyD; rw [if_neg (by omega), hl]
  rw [ha]
  exact ⟨rfl, leF_to hle2⟩
theorem mono_made (s : Sp) (hf : FrOk s.f) (h : (applyD s).2 = 0) : madeD s.T = true := (canD_all (apply_began hf h).1).made
end Go.Proofs.YtkodmpcnndbngaaGreatDoor
