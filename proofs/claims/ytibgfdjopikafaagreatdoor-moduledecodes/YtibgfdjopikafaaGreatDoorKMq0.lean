/-
  What stands in a module, plain: of two modules in which the same stands one is a copy of the other; a module that may be is one that a file can hold. No Go in it.
-/
import Derived.Test.YtibgfdjopikafaaGreatDoorKMp0
import Derived.Test.YtibgfdjopikafaaGreatDoorJMB
namespace Go.Proofs.YtibgfdjopikafaaGreatDoor
open Go.RowKit
set_option maxRecDepth 20000
set_option linter.unusedVariables false

def mcOf (m : Md) : Mc := ⟨m.nm.toList, m.T.map clC, m.F.map fnC, m.C.map bsC⟩
theorem back_nm (s : ByteArray) : (⟨s.toList.toArray⟩ : ByteArray) = s := by
  rw [ByteArray.toList_eq]
theorem nm_inj {s t : ByteArray} (h : s.toList = t.toList) : s = t := by rw [← back_nm s, ← back_nm t, h]
theorem map_at {α β : Type} {c : α → β} {L M : List α} (h : L.map c = M.map c) : L.length = M.length ∧ ∀ (i : Nat) (x y : α), L[i]? = some x → M[i]? = some y → c x = c y := by
  refine ⟨by have := congrArg List.length h; simpa using this, fun i x y hx hy => ?_⟩
  have := congrArg (fun l : List β => l[i]?) h
  simp [List.getElem?_map, hx, hy] at this
  exact this
theorem fl_inj {a b : Fl} (h : flC a = flC b) : a = b := by
  obtain ⟨n, t⟩ := a
  obtain ⟨n', t'⟩ := b
  injection h with h1 h2
  have h2 : t = t' := h2
  have h1 : n = n' := nm_inj h1
  rw [h1, h2]
theorem map_inj {α β : Type} {c : α → β} (hc : ∀ a b, c a = c b → a = b) : ∀ {L M : List α}, L.map c = M.map c → L = M
  | [], [], _ => rfl
  | [], _ :: _, h => by cases h
  | _ :: _, [], h => by cases h
  | a :: l, b :: m, h => by
    injection h with h1 h2
    rw [hc a b h1, map_inj hc h2]
/-- Of two modules in which the same stands one is a copy of the other. -/
theorem mc_same {x y : Md} (h : mcOf y = mcOf x) : SameMd x y := by
  injection h with h1 h2 h3 h4
  obtain ⟨l2, e2⟩ := map_at h2
  obtain ⟨l3, e3⟩ := map_at h3
  obtain ⟨l4, e4⟩ := map_at h4
  refine ⟨nm_inj h1, ⟨l2, fun i a b ha hb => ?_⟩, ⟨l3, fun i a b ha hb => ?_⟩, ⟨l4, fun i a b ha hb => e4 i b a hb ha⟩⟩
  · have := e2 i b a hb ha
    injection this with q1 q2
    injection q2 with q2 q3
    exact ⟨nm_inj q1, q2, map_inj (fun a b => fl_inj) q3⟩
  · have := e3 i b a hb ha
    injection this with q1 q2
    injection q2 with q2 q3
    injection q3 with q3 q4
    injection q2 with q5 q6
    exact ⟨nm_inj q1, ⟨q5, q6⟩, q3, q4⟩
theorem same_mc {x y : Md} (h : SameMd x y) : mcOf y = mcOf x := by
  unfold mcOf
  rw [h.nm, h.T, h.F, h.C]
theorem flt_none {n : Nat} {K : List Kt} : ∀ (L : List Kt) (k : Nat), fltR n K L k = none → ∀ (j : Nat) (x : Kt), L[j]? = some x → fnE n K (k + j) x = 0
  | [], _, _, _, _, hj => by simp at hj
  | y :: l, k, h, j, x, hj => by
    unfold fltR at h
    by_cases e : fnE n K k y = 0
    · rw [if_pos e] at h
      cases j with
      | zero => simp at hj; subst hj; exact e
      | succ j =>
        have := flt_none l (k + 1) h j x (by simpa using hj)
        rw [show k + (j + 1) = k + 1 + j from by omega]
        exact this
    · rw [if_neg e] at h; cases h
theorem flt_some {n : Nat} {K : List Kt} : ∀ (L : List Kt) (k : Nat) (p : Nat) (e : Int), fltR n K L k = some (p, e) → e ≠ 0
  | [], _, _, _, h => by cases h
  | y :: l, k, p, e, h => by
    unfold fltR at h
    by_cases e0 : fnE n K k y = 0
    · rw [if_pos e0] at h; exact flt_some l (k + 1) p e h
    · rw [if_neg e0] at h
      injection h with h
      injection h with _ h
      rw [← h]; exact e0
theorem ct_none : ∀ (C : List (List UInt8)) (k : Nat), ctR C k = none → ∀ c ∈ C, c.length < 65536
  | [], _, _, _, hc => by simp at hc
  | d :: l, k, h, c, hc => by
    unfold ctR at h
    by_cases e : 65535 < d.length
    · rw [if_pos e] at h; cases h
    · rw [if_neg e] at h
      rcases List.mem_cons.1 hc with rfl | hc
      · omega
      · exact ct_none l (k + 1) h c hc
theorem fnE_zero {n : Nat} {K : List Kt} {i : Nat} {x : Kt} (h : fnE n K i x = 0) : nameB x.nm = true ∧ x.ps.length ≤ 8 ∧ (x.ps.length : Int) ≤ x.lo ∧ x.lo ≤ 16 ∧ x.cd.length ≠ 0 ∧ x.cd.length ≤ 4096 := by
  unfold fnE at h
  by_cases h1 : nameB x.nm = false
  · rw [if_pos h1] at h; exact absurd h (by decide)
  rw [if_neg h1] at h
  by_cases h2 : twF K i x.nm = true
  · rw [if_pos h2] at h; exact absurd h (by decide)
  rw [if_neg h2] at h
  by_cases h3 : 8 < x.ps.length
  · rw [if_pos h3] at h; exact absurd h (by decide)
  rw [if_neg h3] at h
  by_cases h4 : sgD n x.ps x.rt = false
  · rw [if_pos h4] at h; exact absurd h (by decide)
  rw [if_neg h4] at h
  by_cases h5 : x.lo < (x.ps.length : Int) ∨ 16 < x.lo
  · rw [if_pos h5] at h; exact absurd h (by decide)
  rw [if_neg h5] at h
  by_cases h6 : x.cd.length = 0
  · rw [if_pos h6] at h; exact absurd h (by decide)
  rw [if_neg h6] at h
  by_cases h7 : 4096 < x.cd.length
  · rw [if_pos h7] at h; exact absurd h (by decide)
  refine ⟨?_, by omega, by omega, by omega, h6, by omega⟩
  cases hn : nameB x.nm with
  | true => rfl
  | false => exact absurd hn h1
theorem scan_nm (n : Nat) (all : List Fl) : ∀ (rest pre : List Fl), scanD n all pre rest = 0 → ∀ f ∈ rest, nameB f.nm = true
  | [], _, _, _, hf => by simp at hf
  | g :: rest, pre, h, f, hf => by
    unfold scanD at h
    by_cases e1 : nameB g.nm = false
    · rw [if_pos e1] at h; exact absurd h (by decide)
    rw [if_neg e1] at h
    by_cases e2 : (hasD all g.nm || hasD pre g.nm) = true
    · rw [if_pos e2] at h; exact absurd h (by decide)
    rw [if_neg e2] at h
    by_cases e3 : storedD n g.ty = false
    · rw [if_pos e3] at h; exact absurd h (by decide)
    rw [if_neg e3] at h
    rcases List.mem_cons.1 hf with rfl | hf
    · cases hn : nameB f.nm with
      | true => rfl
      | false => exact absurd hn e1
    · exact scan_nm n all rest _ h f hf
theorem nmV_of {s : ByteArray} (h : nameB s = true) : NmV s.toList := by unfold NmV; rw [back_nm]; exact h
/-- What a check that finds nothing says. -/
structure CkG (m : Md) : Prop where
  nm : nameB m.nm = true
  tab : madeD m.T = true
  fn : m.F.length ≤ 64
  fns : ∀ (i : Nat) (x : Fn), m.F[i]? = some x → fnE m.T.length (m.F.map fnK) i (fnK x) = 0
  ct : m.C.length = 0 ∨ m.C.length = m.F.length
  cts : ∀ c ∈ m.C, c.cd.length < 65536
theorem ck_good {m : Md} {n : Nat} (h : CkR m n 0) : CkG m ∧ n = 0 := by
  rcases h with ⟨_, _, h⟩ | ⟨_, h⟩ | ⟨h1, h2, h3⟩
  · exact absurd h (by decide)
  · exact absurd rfl h.one.2.1
  · unfold restE at h3
    by_cases e1 : 64 < (m.F.map fnK).length
    · rw [if_pos e1] at h3; injection h3 with _ h3; exact absurd h3 (by decide)
    rw [if_neg e1] at h3
    cases hf : fltR m.T.length (m.F.map fnK) (m.F.map fnK) 0 with
    | some x =>
      obtain ⟨p, e⟩ := x
      rw [hf] at h3
      injection h3 with _ h3
      exact absurd h3.symm (flt_some _ _ _ _ hf)
    | none =>
      rw [hf] at h3
      have h3 : (n, (0 : Int)) = ctE (m.F.map fnK).length (m.C.map bsC) := h3
      unfold ctE at h3
      by_cases e2 : 0 < (m.C.map bsC).length ∧ (m.C.map bsC).length ≠ (m.F.map fnK).length
      · rw [if_pos e2] at h3; injection h3 with _ h3; exact absurd h3 (by decide)
      rw [if_neg e2] at h3
      cases hc : ctR (m.C.map bsC) 0 with
      | some k => rw [hc] at h3; injection h3 with _ h3; exact absurd h3 (by decide)
      | none =>
        rw [hc] at h3
        injection h3 with h3 _
        simp only [List.length_map] at e1 e2
        refine ⟨⟨h1, h2, by omega, fun i x hx => ?_, by omega, fun c hcm => ?_⟩, h3⟩
        · have := flt_none _ _ hf i (fnK x) (by rw [List.getElem?_map, hx]; rfl)
          rw [Nat.zero_add] at this
          exact this
        · exact ct_none _ _ hc (bsC c) (List.mem_map_of_mem hcm)
theorem ck_v {W : World} {m : Md} (hm : MdOk W m) (h : CkG m) : McV (mcOf m) := by
  have hg := madeD_all h.tab
  have hl : m.T.length ≤ 32 := by
    by_cases e : m.T.length = 0
    · omega
    · have hx := List.getElem?_eq_getElem (show m.T.length - 1 < m.T.length by omega)
      have := (faultD_zero hx (hg _ (by omega))).lt
      omega
  refine ⟨nmV_of h.nm, by simpa [mcOf] using hl, fun x hx => ?_, by simpa [mcOf] using h.fn, fun x hx => ?_, ?_, fun c hc => ?_⟩
  · obtain ⟨y, hy, rfl⟩ := List.mem_map.1 hx
    obtain ⟨i, hi, rfl⟩ := List.mem_iff_getElem.1 hy
    have he := List.getElem?_eq_getElem hi
    have g := faultD_zero he (hg i hi)
    obtain ⟨b, off, _, hat⟩ := hm.tab i _ he
    have hlo := g.lo
    have hhi := g.hi
    have hsl := scanD_le _ _ _ _ g.scan
    refine ⟨nmV_of g.name, ?_, by show ((m.T[i]).fs.map flC).length ≤ 32; simp at hsl ⊢; omega, fun f hf => ?_⟩
    · show ParV (m.T[i]).par
      unfold ParV
      omega
    · obtain ⟨q, hq, rfl⟩ := List.mem_map.1 hf
      obtain ⟨j, hj, rfl⟩ := List.mem_iff_getElem.1 hq
      obtain ⟨b2, o2, _, hfl⟩ := hat.flds j _ (List.getElem?_eq_getElem hj)
      exact ⟨nmV_of (scan_nm _ _ _ _ g.scan _ hq), hfl.ty⟩
  · obtain ⟨y, hy, rfl⟩ := List.mem_map.1 hx
    obtain ⟨i, hi, rfl⟩ := List.mem_iff_getElem.1 hy
    have he := List.getElem?_eq_getElem hi
    have g := fnE_zero (h.fns i _ he)
    obtain ⟨b, off, _, hat⟩ := hm.fns i _ he
    obtain ⟨g1, g2, g3, g4, g5, g6⟩ := g
    exact ⟨nmV_of g1, g2, hat.ok.sg.bts, hat.ok.sg.res, ⟨by show 0 ≤ (m.F[i]).lo; have : (((fnK m.F[i]).ps.length : Nat) : Int) ≤ (m.F[i]).lo := g3; omega, by show (m.F[i]).lo < 256; have : (m.F[i]).lo ≤ 16 := g4; omega⟩, by show (m.F[i]).cd.length < 65536; have : (m.F[i]).cd.length ≤ 4096 := g6; omega⟩
  · have hct := h.ct
    by_cases e : m.C = []
    · left; simp [mcOf, e]
    · right
      have : m.C.length ≠ 0 := fun h0 => e (List.eq_nil_of_length_eq_zero h0)
      simp [mcOf]
      exact ⟨by omega, fun h0 => by rw [h0] at hct; simp at hct; exact e hct⟩
  · obtain ⟨y, hy, rfl⟩ := List.mem_map.1 hc
    exact h.cts y hy
end Go.Proofs.YtibgfdjopikafaaGreatDoor
