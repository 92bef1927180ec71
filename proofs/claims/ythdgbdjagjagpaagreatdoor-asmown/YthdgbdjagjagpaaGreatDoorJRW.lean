/-
  Texts of contracts and plain lemmas, one behind another; each says at its head what it holds.
-/
import Derived.Test.YthdgbdjagjagpaaGreatDoorJRE
import Derived.Test.YthdgbdjagjagpaaGreatDoorJRC
import Derived.Test.YthdgbdjagjagpaaGreatDoorJRD
import Derived.Test.YthdgbdjagjagpaaGreatDoorKOpenedAn
import Derived.Test.YthdgbdjagjagpaaGreatDoorJRO
/-
  The walk of the law AsmParses: it returns true for all texts, and writes nothing that was there.
-/
namespace Go.Proofs.YthdgbdjagjagpaaGreatDoor
open Go.RowKit
set_option maxRecDepth 20000
set_option linter.unusedVariables false
set_option linter.unusedSimpArgs false

theorem refParse_as {s : ByteArray} {L : List UInt8} {i : Nat} {er : Int} (h : parS s = (L, i, er)) (w : World) (hs : s.size ≤ 140737488355328) :
    Calls Tryz.prog 8 #[.string s] w fun e w' => ∃ bo bc, e = .returned (.tuple #[.slice bo L.length bc, .int .i64 (i : Int), .int .i64 er]) ∧ L.length ≤ bc ∧ BAt w' bo L ∧ OwnB w' w.heap.size (.slice bo L.length bc) L ∧ Below w.heap.size w w' := by
  refine (refParse_any s w hs).mono ?_
  rintro e w' ⟨v, rfl, hob, hb⟩
  rw [h] at hob ⊢
  obtain ⟨bo, bc, rfl, h1, h2⟩ := hob.atc
  exact ⟨bo, bc, rfl, h1, h2, hob, hb⟩
theorem parS_len (s : ByteArray) : (parS s).1.length ≤ 4096 := by
  by_cases h : (parS s).2.2 = 0
  · obtain ⟨L, h1, h2, _⟩ := read_prints h
    rw [h1]; exact h2
  · rw [parS_bad_nil h]; simp
set_option maxHeartbeats 4000000 in
theorem walkAsmParses {w : World} (hW : LdN w) (s : ByteArray) (_hs : s.size ≤ maxLen) (hz : s.size ≤ 140737488351232) :
    Calls Tryz.prog 3 #[.string s] w fun e w' => e = .returned (.bool true) ∧ Below w.heap.size w w' := by
  have hlen := parS_len s
  obtain ⟨r, HR⟩ : ∃ r, parS s = r := ⟨_, rfl⟩
  rw [HR] at hlen
  obtain ⟨L, i, er⟩ := r
  simp only [] at hlen
  have HP1 := hide (parse_as HR w hW.a.w hW.a.c hW.r hW.m hW.g (by omega))
  have HP2 := hide (fun W => refParse_as HR W (by omega))
  clear HR hW
  go_enter Tryz.func3, Tryz.ntmps3
  go_wp2_with fail
  refine (unhide HP1).mono ?_
  rintro e' w1 ⟨bo, bc, rfl, hbc, hba, _, hb1⟩
  have HB1 := hide hb1
  have HA1 := hide hba
  clear hb1 hba HP1
  go_wp2_with fail
  refine (unhide HP2 w1).mono ?_
  rintro e' w2 ⟨co, cc, rfl, hcc, hca, _, hb2⟩
  have HB2 := hide ((unhide HB1).trans (hb2.mono (unhide HB1).size))
  have HE := hide (Equal_any bo co bc cc L L w2 ((unhide HA1).below' hb2) hca (by unfold maxLen; omega) (by unfold maxLen; omega))
  have t1 : ((i : Int) == (i : Int)) = true := beq_t rfl
  have t2 : (er == er) = true := beq_t rfl
  have t3 : (L == L) = true := by simp
  clear hb2 hca HA1 HB1 HP2
  go_wp2_with (go_at_call 9; refine (unhide HE).mono ?_; rintro e w7 ⟨rfl, k, rfl⟩)
  go_ret
  exact ⟨ret_bool (by simp), belowD (unhide HB2) _⟩
end Go.Proofs.YthdgbdjagjagpaaGreatDoor

/-
  The walk of the law AsmOwn: it returns true for all texts, and writes nothing that was there.
-/
namespace Go.Proofs.YthdgbdjagjagpaaGreatDoor
open Go.RowKit
set_option maxRecDepth 20000
set_option linter.unusedVariables false
set_option linter.unusedSimpArgs false

/-- A shelf with lists of bytes of their own. -/
structure SitO (W w : World) (sp : Nat) (sv : Value) (its : List Value) : Prop where
  sh : Sh w sp sv its
  it : Its w its 0
  ap : Apart its
  osp : W.heap.size ≤ sp
  osv : ∀ k, sv.ownBlock = some k → W.heap.size ≤ k
  oit : ∀ k, InIts its k → W.heap.size ≤ k
  bel : Below W.heap.size W w
theorem SitO.lt {W w : World} {sp : Nat} {sv : Value} {its : List Value} (h : SitO W w sp sv its) : ∀ k, InIts its k → k < w.heap.size := by
  rintro k ⟨u, hu, e⟩
  obtain ⟨j, hj, rfl⟩ := List.getElem_of_mem hu
  obtain ⟨m, ho, _⟩ := h.it j _ (List.getElem?_eq_getElem hj)
  exact ho.block_lt e
theorem SitO.below {W w w' : World} {sp : Nat} {sv : Value} {its : List Value} (h : SitO W w sp sv its) (hb : Below w.heap.size w w') : SitO W w' sp sv its :=
  ⟨h.sh.below hb, h.it.keep (Kept.of_below hb (fun _ => False)) (fun _ _ _ _ _ h => h), h.ap, h.osp, h.osv, h.oit, h.bel.trans (hb.mono h.bel.size)⟩
theorem SitO.push {W w w' : World} {sp : Nat} {sv sv' u : Value} {its : List Value} {m : List UInt8} (h : SitO W w sp sv its) (hk : Kept (fun k => k = sp ∨ sv.ownBlock = some k) w w') (hs : Sh w' sp sv' (its ++ [u]))
    (hf : ∀ k, sv'.ownBlock = some k → sv.ownBlock = some k ∨ w.heap.size ≤ k) (ho : OwnB w 0 u m) (hm : m.length ≤ 140737488351232) (hu : ∀ k, u.ownBlock = some k → ¬ InIts its k ∧ W.heap.size ≤ k) : SitO W w' sp sv' (its ++ [u]) := by
  have hb : ∀ {B : Nat} {u : Value} {m : List UInt8}, OwnB w B u m → OwnB w' B u m := fun ho => ho.keep hk (fun k hk' e => by
    rcases e with e | e
    · exact (h.sh.bytes ho).1 (by rw [hk', e])
    · exact (h.sh.bytes ho).2 k hk' e)
  have hin : ∀ k, InIts (its ++ [u]) k → InIts its k ∨ u.ownBlock = some k := by
    rintro k ⟨x, hx, e⟩
    rw [List.mem_append] at hx
    rcases hx with hx | hx
    · exact .inl ⟨x, hx, e⟩
    · simp at hx; subst hx; exact .inr e
  refine ⟨hs, ?_, ?_, h.osp, ?_, ?_, hk.below h.bel h.bel.size ?_⟩
  · intro j x hx
    by_cases e : j < its.length
    · rw [List.getElem?_append_left e] at hx
      obtain ⟨l', h1, h2, _⟩ := h.it j x hx
      exact ⟨l', hb h1, h2, fun h => by omega⟩
    · rw [List.getElem?_append_right (by omega)] at hx
      have e2 : j - its.length = 0 := by
        have := (List.getElem?_eq_some_iff.1 hx).1
        simp at this
        omega
      rw [e2] at hx
      simp at hx
      subst hx
      exact ⟨m, hb ho, hm, fun h => by omega⟩
  · have hget : ∀ (j : Nat) x, (its ++ [u])[j]? = some x → its[j]? = some x ∨ (j = its.length ∧ x = u) := by
      intro j x hx
      by_cases e : j < its.length
      · rw [List.getElem?_append_left e] at hx; exact .inl hx
      · rw [List.getElem?_append_right (by omega)] at hx
        have e2 : j - its.length = 0 := by
          have := (List.getElem?_eq_some_iff.1 hx).1
          simp at this
          omega
        rw [e2] at hx
        simp at hx
        exact .inr ⟨by omega, hx.symm⟩
    intro i j a b ha hb' hne k hka hkb
    rcases hget i a ha with ha2 | ⟨ha2, ha3⟩
    · rcases hget j b hb' with hb2 | ⟨hb2, hb3⟩
      · exact h.ap i j a b ha2 hb2 hne k hka hkb
      · exact (hu k (hb3 ▸ hkb)).1 (mem_inits ha2 hka)
    · rcases hget j b hb' with hb2 | ⟨hb2, hb3⟩
      · exact (hu k (ha3 ▸ hka)).1 (mem_inits hb2 hkb)
      · omega
  · intro k e
    rcases hf k e with h1 | h1
    · exact h.osv k h1
    · exact Nat.le_trans h.bel.size h1
  · intro k hi
    rcases hin k hi with hi | hi
    · exact h.oit k hi
    · exact (hu k hi).2
  · intro k e
    rcases e with e | e
    · rw [e]; exact h.osp
    · exact h.osv k e
set_option maxHeartbeats 8000000 in
theorem walkAsmOwn {w : World} (hW : LdN w) (s : ByteArray) (_hs : s.size ≤ maxLen) (hz : s.size ≤ 140737488351232) :
    Calls Tryz.prog 6 #[.string s] w fun e w' => e = .returned (.bool true) ∧ Below w.heap.size w w' := by
  have hlen := parS_len s
  obtain ⟨r, HR⟩ : ∃ r, parS s = r := ⟨_, rfl⟩
  rw [HR] at hlen
  obtain ⟨L, i, er⟩ := r
  simp only [] at hlen
  have HP1 := hide (fun (W : World) (h : LdN W) => parse_as HR W h.a.w h.a.c h.r h.m h.g (by omega))
  have HP2 := hide (fun W => refParse_as HR W (by omega))
  have HW := hide hW
  have t1 : ((i : Int) != (i : Int)) = false := bne_f rfl
  have t2 : (er != er) = false := bne_f rfl
  have t3 : (L == L) = true := by simp
  have t4 : ((i : Int) == (i : Int)) = true := beq_t rfl
  have t5 : (er == er) = true := beq_t rfl
  clear HR hW
  go_enter Tryz.func6, Tryz.ntmps6
  go_upto_region 2 with fail
  obtain ⟨w0, HW0⟩ : ∃ w0, Hid (w0 = w.alloc (.cells #[.slice none 0 0, .slice none 0 0] 36)) := ⟨_, hide rfl⟩
  obtain ⟨sp, HSP⟩ : ∃ sp, Hid (sp = w.heap.size) := ⟨_, hide rfl⟩
  have hS0 : SitO w w0 sp (.slice none 0 0) [] := by
    rw [unhide HW0, unhide HSP]
    exact ⟨⟨heap_alloc_new w _, World.ownsRow_nil _ _ _ _⟩, fun i v hv => (by simp at hv), fun i j a b ha => (by simp at ha), Nat.le_refl _, fun k e => (by cases e), fun k hk => (by obtain ⟨v, hv, _⟩ := hk; simp at hv), (Below.refl _ _).alloc (Nat.le_refl _) _⟩
  rw [← unhide HW0, ← unhide HSP]
  clear HW0 HSP
  have HS0 := hide hS0
  clear hS0
  go_wp2_with fail
  refine (unhide HP2 w0).mono ?_
  rintro e' w1 ⟨co, cc, rfl, hcc, _, hco, hb1⟩
  have HS1 := hide ((unhide HS0).below hb1)
  have HC1 : Hid (OwnB w1 0 (.slice co L.length cc) L) := hide (hco.mono (Nat.zero_le _))
  have HCB : Hid (∀ k, (Value.slice co L.length cc).ownBlock = some k → w.heap.size ≤ k) := hide (fun k e => Nat.le_trans (unhide HS0).bel.size (World.ownsRow.lt hco k e).1)
  clear hco hb1 HS0 HP2
  go_wp2
  go_loopw [21] (fun iv wr => ∃ (k : Nat) (sv : Value) (its : List Value), k ≤ 2 ∧ iv = .int .i64 (k : Int) ∧ Hid (its.length = k) ∧ Hid (SitO w wr sp sv its) ∧ Hid (OwnB wr 0 (.slice co L.length cc) L) ∧ Hid (∀ k, (Value.slice co L.length cc).ownBlock = some k → ¬ InIts its k)) (fun iv _ => 2 - (intOf iv).toNat)
  case atStart => exact ⟨0, _, [], by omega, rfl, hide rfl, HS1, HC1, hide (fun k _ hk => by obtain ⟨v, hv, _⟩ := hk; simp at hv)⟩
  case round =>
    clear HS1 HC1
    obtain ⟨k, sv, its, hk, rfl, HIL, HS, HC, HNI⟩ := hrel
    have HWr := hide ((unhide HW).below (unhide HS).bel)
    have HPA := hide (unhide HP1 wr (unhide HWr))
    by_cases hlt : k < 2
    · have j1 : ((k : Nat) : Int) < 2 := by omega
      go_wp2_with fail
      refine (unhide HPA).mono ?_
      rintro e' w3 ⟨bo, bc, rfl, hbc, hba, hbo, hb3⟩
      have HS3 := hide ((unhide HS).below hb3)
      have HC3 : Hid (OwnB w3 0 (.slice co L.length cc) L) := hide ((unhide HC).below hb3)
      obtain ⟨co', cc', hce, hca⟩ := (unhide HC3).at
      have hce1 : co = co' := by injection hce
      subst hce1
      have HE := hide (Equal_any bo co bc cc L L w3 hba hca (by unfold maxLen; omega) (by unfold maxLen; omega))
      have HO3 : Hid (OwnB w3 0 (.slice bo L.length bc) L) := hide (hbo.mono (Nat.zero_le _))
      have HOB : Hid (∀ k, (Value.slice bo L.length bc).ownBlock = some k → wr.heap.size ≤ k) := hide (fun k e => (World.ownsRow.lt hbo k e).1)
      have HSW := hide (unhide HS).bel.size
      have HIN : Hid (∀ k, InIts its k → k < wr.heap.size) := hide (unhide HS).lt
      have HCL : Hid (∀ k, (Value.slice co L.length cc).ownBlock = some k → k < wr.heap.size) := hide (fun k e => (unhide HC).block_lt e)
      clear hce hca hba hbo hb3 HPA HS HC HWr
      go_upto_region 8 with (go_at_call 9; refine (unhide HE).mono ?_; rintro e w7 ⟨rfl, kk, rfl⟩)
      have HS4 : Hid (SitO w (w3.drewN kk) sp sv its) := hide ((unhide HS3).below (below_dL _ _))
      have HC4 : Hid (OwnB (w3.drewN kk) 0 (.slice co L.length cc) L) := hide ((unhide HC3).below (below_dL _ _))
      have HO4 : Hid (OwnB (w3.drewN kk) 0 (.slice bo L.length bc) L) := hide ((unhide HO3).below (below_dL _ _))
      clear HS3 HC3 HO3 HE
      generalize w3.drewN kk = w4 at HS4 HC4 HO4 ⊢
      have HB := hide (ShBytes (unhide HS4).sh bo L.length bc (by have := unhide HIL; omega))
      go_wp2_with fail
      refine (unhide HB).mono ?_
      rintro e w5 ⟨rfl, sv', hsh, hkk, hsf⟩
      have HS5 : Hid (SitO w w5 sp sv' (its ++ [Value.slice bo L.length bc])) := hide ((unhide HS4).push hkk hsh hsf (unhide HO4) (by omega) (fun k e => by
        have h1 := unhide HOB k e
        refine ⟨fun hi => ?_, ?_⟩
        · have := unhide HIN k hi; omega
        · have := unhide HSW; omega))
      have HC5 : Hid (OwnB w5 0 (.slice co L.length cc) L) := hide ((unhide HC4).keep hkk (fun k hk' e => by
        rcases e with e | e
        · exact ((unhide HS4).sh.bytes (unhide HC4)).1 (by rw [hk', e])
        · exact ((unhide HS4).sh.bytes (unhide HC4)).2 k hk' e))
      have HN5 : Hid (∀ k, (Value.slice co L.length cc).ownBlock = some k → ¬ InIts (its ++ [Value.slice bo L.length bc]) k) := hide (fun k e hi => by
        obtain ⟨x, hx, hxe⟩ := hi
        rw [List.mem_append] at hx
        rcases hx with hx | hx
        · exact unhide HNI k e ⟨x, hx, hxe⟩
        · rw [List.mem_singleton] at hx
          subst hx
          have h1 := unhide HOB k hxe
          have h2 := unhide HCL k e
          omega)
      have HL5 : Hid ((its ++ [Value.slice bo L.length bc]).length = k + 1) := hide (by rw [List.length_append, unhide HIL]; rfl)
      clear hsh hkk hsf HS4 HC4 HO4 HOB HIN HSW HCL HB HNI HIL
      go_wp2
      go_roundw
      case rel => exact ⟨k + 1, sv', _, by omega, by go_num, HL5, HS5, HC5, HN5⟩
      case measure => simp [intOf]; omega
    · obtain rfl : k = 2 := by omega
      clear HPA
      have hs := unhide HS
      have HO := hide (Own_yes hs.sh hs.it hs.ap (by have := unhide HIL; omega) (by have := unhide HIL; omega))
      clear hs
      go_wp2_with fail
      refine (unhide HO).mono ?_
      rintro e w3 ⟨rfl, hkk⟩
      have hs := unhide HS
      have HB3 : Hid (Below w.heap.size w w3) := hide (hkk.below hs.bel hs.bel.size hs.oit)
      have HC3 : Hid (OwnB w3 0 (.slice co L.length cc) L) := hide ((unhide HC).keep hkk (fun k hk' e => unhide HNI k hk' e))
      have HW3 := hide ((unhide HW).below (unhide HB3))
      have HPB := hide (unhide HP1 w3 (unhide HW3))
      clear hs hkk HO HS HC HNI HWr
      go_wp2_with fail
      refine (unhide HPB).mono ?_
      rintro e' w4 ⟨bo, bc, rfl, hbc, hba, _, hb4⟩
      have HB4 := hide ((unhide HB3).trans (hb4.mono (unhide HB3).size))
      obtain ⟨co', cc', hce, hca⟩ := ((unhide HC3).below hb4).at
      have hce1 : co = co' := by injection hce
      subst hce1
      have HE := hide (Equal_any bo co bc cc L L w4 hba hca (by unfold maxLen; omega) (by unfold maxLen; omega))
      clear hce hca hba hb4 HPB HC3 HW3 HB3
      go_wp2_with (go_at_call 9; refine (unhide HE).mono ?_; rintro e w7 ⟨rfl, kk, rfl⟩)
      go_ret
      exact ⟨ret_bool (by simp), belowD (unhide HB4) _⟩
end Go.Proofs.YthdgbdjagjagpaaGreatDoor
