/-
  Contracts of provisoref02's Line and Fields: what the plain functions 'lineD' and 'fieldsD' say, in new memory. Conditions: the table fits; of Fields, that there are at most a million of them.
-/
import Derived.Test.YtbiofkgdbdjdnaaDoorCls
import Derived.Laws.AppendOwnNone
namespace Go.Proofs.YtbiofkgdbdjdnaaDoor
open Go.RowKit
set_option maxRecDepth 20000

/-! ### Rows of numbers, rows of fields, of one's own -/
def ivals (l : List Nat) : List Value := l.map fun (x : Nat) => Value.int .i64 (x : Int)
def OwnI (w : World) (base : Nat) (v : Value) (l : List Nat) : Prop := w.ownsRow base 3 1 v l.length (ivals l)
theorem infoI : (Tryd.prog.info? 3).map (fun i => (i.zero, i.size, i.bytes)) = some (some (.int .i64 0), 1, 8) := by kernel_rfl
theorem infoF : (Tryd.prog.info? 41).map (fun i => (i.zero, i.size, i.bytes)) = some (some (.agg #[.string ⟨#[]⟩, .int .u8 0]), 2, 24) := by kernel_rfl

theorem OwnI.shape {w : World} {base : Nat} {v : Value} {l : List Nat} (h : OwnI w base v l) :
    (v = .slice none 0 0 ∧ l = []) ∨ ∃ g cap, v = .slice (some ⟨g, 0, none⟩) l.length cap ∧ base ≤ g ∧ g < w.heap.size ∧ ∀ (i x : Nat), l[i]? = some x → w.cell? ⟨g, i, none⟩ = some (.int .i64 (x : Int)) := by
  rcases h.2 with ⟨h1, h2⟩ | ⟨g, cap, cur, hv, hb, hh, hn, hm, hs, ht⟩
  · exact Or.inl ⟨h1, List.eq_nil_of_length_eq_zero h2⟩
  · refine Or.inr ⟨g, cap, hv, hb, (Array.getElem?_eq_some_iff.1 hh).1, fun i x hx => ?_⟩
    have h' : w.ownsRow base 3 1 (.slice (some ⟨g, 0, none⟩) l.length cap) l.length (ivals l) := hv ▸ h
    have hi := (List.getElem?_eq_some_iff.1 hx).1
    rw [h'.cellAt i (by omega)]
    unfold ivals
    rw [List.getElem?_map, hx]
    rfl
theorem OwnI.slice {w : World} {base : Nat} {v : Value} {l : List Nat} (h : OwnI w base v l) : ∃ ao cap, v = .slice ao l.length cap ∧ ∀ (i x : Nat), l[i]? = some x → ∃ g, ao = some ⟨g, 0, none⟩ ∧ w.cell? ⟨g, i, none⟩ = some (.int .i64 (x : Int)) := by
  rcases h.shape with ⟨rfl, rfl⟩ | ⟨g, cap, rfl, _, _, hc⟩
  · exact ⟨none, 0, rfl, fun i x hx => by simp at hx⟩
  · exact ⟨_, cap, rfl, fun i x hx => ⟨g, rfl, hc i x hx⟩⟩
theorem rowBelow {w w' : World} {base : Nat} {t : TypeId} {s : Nat} {v : Value} {n : Nat} {cs : List Value} (h : w.ownsRow base t s v n cs) (hb : Below w.heap.size w w') : w'.ownsRow base t s v n cs := by
  refine ⟨h.1, ?_⟩
  rcases h.2 with h1 | ⟨g, cap, cur, hv, hbg, hh, r⟩
  · exact Or.inl h1
  · exact Or.inr ⟨g, cap, cur, hv, hbg, by rw [hb.block g (Array.getElem?_eq_some_iff.1 hh).1]; exact hh, r⟩

def fcells (f : Fl) : List Value := [.string f.nm, .int .u8 (f.ty : Int)]
def fvals (l : List Fl) : List Value := l.flatMap fcells
theorem fvals_length (l : List Fl) : (fvals l).length = l.length * 2 := by
  unfold fvals
  induction l with
  | nil => rfl
  | cons f l ih => rw [List.flatMap_cons, List.length_append, ih]; simp [fcells]; omega
theorem fvals_append (l m : List Fl) : fvals (l ++ m) = fvals l ++ fvals m := by unfold fvals; simp
theorem fvals_one (l : List Fl) : ∀ u ∈ fvals l, u.oneCell' = true := by
  intro u hu
  unfold fvals at hu
  obtain ⟨f, _, hf⟩ := List.mem_flatMap.1 hu
  simp [fcells] at hf
  rcases hf with rfl | rfl <;> rfl
theorem fvals_get : ∀ {l : List Fl} {i : Nat} {f : Fl}, l[i]? = some f → (fvals l)[i * 2]? = some (.string f.nm) ∧ (fvals l)[i * 2 + 1]? = some (.int .u8 (f.ty : Int))
  | [], i, f, h => by simp at h
  | g :: l, 0, f, h => by
    simp at h
    subst h
    unfold fvals
    rw [List.flatMap_cons]
    exact ⟨rfl, rfl⟩
  | g :: l, i + 1, f, h => by
    have h' : l[i]? = some f := by simpa using h
    obtain ⟨h1, h2⟩ := fvals_get h'
    unfold fvals at h1 h2 ⊢
    rw [List.flatMap_cons]
    constructor
    · rw [List.getElem?_append_right (by simp [fcells]; omega)]
      rw [← h1]; congr 1; simp [fcells]; omega
    · rw [List.getElem?_append_right (by simp [fcells]; omega)]
      rw [← h2]; congr 1; simp [fcells]; omega
theorem fcells_at {w : World} {b : Nat} : ∀ (fs : List Fl) (off : Nat), (∀ (i : Nat) f, fs[i]? = some f → FlAt w b (off + i * 2) f) → ∀ (j : Nat) u, (fvals fs)[j]? = some u → w.cell? ⟨b, off + j, none⟩ = some u
  | [], off, h, j, u, hu => by simp [fvals] at hu
  | f :: fs, off, h, j, u, hu => by
    have h0 := h 0 f rfl
    unfold fvals at hu
    rw [List.flatMap_cons] at hu
    match j with
    | 0 =>
      simp [fcells] at hu
      subst hu
      simpa using h0.c0
    | 1 =>
      simp [fcells] at hu
      subst hu
      simpa using h0.c1
    | j + 2 =>
      rw [List.getElem?_append_right (by simp [fcells])] at hu
      have := fcells_at fs (off + 2) (fun i g hg => by
        have := h (i + 1) g (by simpa using hg)
        rw [show off + (i + 1) * 2 = off + 2 + i * 2 from by omega] at this
        exact this) j u (by simpa [fcells, fvals] using hu)
      rw [show off + (j + 2) = off + 2 + j from by omega]
      exact this

def OwnF (w : World) (base : Nat) (v : Value) (l : List Fl) : Prop := w.ownsRow base 41 2 v l.length (fvals l)
/-- What a field must keep to. -/
def FlOk (f : Fl) : Prop := f.nm.size ≤ 140737488351232 ∧ f.ty < 256
theorem OwnF.at {w : World} {base : Nat} {v : Value} {l : List Fl} (h : OwnF w base v l) (hok : ∀ f ∈ l, FlOk f) : ∃ ao cap, v = .slice ao l.length cap ∧ FsAt w ao l ∧ (ao = none → l = [] ∧ cap = 0) ∧ l.length ≤ cap := by
  rcases h.2 with ⟨h1, h2⟩ | ⟨g, cap, cur, rfl, hb, hh, hn, hm, hs, ht⟩
  · obtain rfl := List.eq_nil_of_length_eq_zero h2
    exact ⟨none, 0, h1, fun i f hf => by simp at hf, fun _ => ⟨rfl, rfl⟩, Nat.le_refl _⟩
  · refine ⟨_, cap, rfl, fun i f hf => ⟨g, 0, rfl, ?_⟩, fun e => (by cases e), hn⟩
    have hi := (List.getElem?_eq_some_iff.1 hf).1
    obtain ⟨h1, h2⟩ := fvals_get hf
    have hf' := hok f (List.mem_of_getElem? hf)
    refine ⟨?_, ?_, hf'.1, hf'.2⟩
    · rw [Nat.zero_add, h.cellAt (i * 2) (by omega)]; exact h1
    · rw [Nat.zero_add, h.cellAt (i * 2 + 1) (by omega)]; exact h2

/-! ### Lines -/
theorem lineR_lt (T : List Cl) : ∀ (k : Nat) (c : Int), ∀ x ∈ lineR T k c, x < T.length
  | 0, c, x, h => by simp [lineR] at h
  | k + 1, c, x, h => by
    unfold lineR at h
    by_cases hc : 0 ≤ c ∧ c < (T.length : Int)
    · rw [if_pos hc, List.mem_cons] at h
      rcases h with h | h
      · omega
      · exact lineR_lt T k _ x h
    · rw [if_neg hc] at h
      simp at h
theorem lineR_out {T : List Cl} {c : Int} (k : Nat) (h : ¬ (0 ≤ c ∧ c < (T.length : Int))) : lineR T k c = [] := by
  cases k with
  | zero => rfl
  | succ k => unfold lineR; rw [if_neg h]
theorem lineR_in {T : List Cl} {c : Nat} (k : Nat) (h : c < T.length) : lineR T (k + 1) (c : Int) = c :: lineR T k (parD T c) := by
  rw [lineR, if_pos (by omega)]
  simp
theorem parD_at {T : List Cl} {c : Nat} {x : Cl} (h : T[c]? = some x) : parD T c = x.par := by unfold parD; rw [h]
theorem fsD_at {T : List Cl} {c : Nat} {x : Cl} (h : T[c]? = some x) : fsD T c = x.fs := by unfold fsD; rw [h]

theorem cell_one_newI (w : World) (x : Value) (t : TypeId) : ∀ (j : Nat) u, [x][j]? = some u → (w.alloc (.cells #[x] t)).cell? ((⟨w.heap.size, 0, none⟩ : Addr).add j) = some u := by
  intro j u hj
  match j, hj with
  | 0, hj =>
    simp at hj
    subst hj
    simp [Addr.add]

set_option maxHeartbeats 1000000 in
theorem Line_any (ao : Option Addr) (cap : Nat) (T : List Cl) (c : Int) (w : World) (h : TabAt w ao T) (hT : T.length * 48 ≤ 140737488351232) :
    Calls Tryd.prog 59 #[.slice ao T.length cap, .int .i64 c] w fun e w' => ∃ v, e = .returned v ∧ OwnI w' w.heap.size v (lineD T c) ∧ Below w.heap.size w w' := by
  obtain ⟨i0, hi, hz0, hz1, hz2⟩ := info_parts infoI
  have hT' : T.length + 1 ≤ 4000000000000 := by omega
  have HT := hide hT'
  have H := hide h
  have hT2 : T.length < 9223372036854775800 := by omega
  clear hT h hT'
  go_enter Tryd.func59, Tryd.ntmps59
  go_wp2
  go_loopw [1, 5] (fun cv v wr => ∃ (pre : List Nat) (cur : Int), cv = .int .i64 cur ∧ Hid (OwnI wr w.heap.size v pre) ∧ Hid (Below w.heap.size w wr) ∧ pre.length ≤ T.length + 1 ∧ Hid (lineD T c = pre ++ lineR T (T.length + 1 - pre.length) cur)) (fun _ v _ => match v with | .slice _ n _ => T.length + 1 - n | _ => 0)
  case atStart => exact ⟨[], c, rfl, hide (World.ownsRow_nil _ _ _ _), hide (Below.refl _ _), by simp, hide rfl⟩
  case round =>
    obtain ⟨pre, cur, rfl, HO, HB, hpl, HL⟩ := hrel
    obtain ⟨oa, oc, rfl, _⟩ := (unhide HO).slice
    by_cases h0 : 0 ≤ cur
    · have j0 : cur ≥ 0 := h0
      by_cases h1 : cur < (T.length : Int)
      · by_cases h2 : pre.length ≤ T.length
        · have j2 : ((pre.length : Nat) : Int) ≤ ((T.length : Nat) : Int) := by omega
          obtain ⟨k, rfl⟩ : ∃ k : Nat, cur = (k : Int) := ⟨cur.toNat, by omega⟩
          have hk : k < T.length := by omega
          have hTb := (unhide H).below (unhide HB)
          obtain ⟨b, off, rfl, hx⟩ := hTb k _ (List.getElem?_eq_getElem hk)
          have d1 := hx.c1
          have HP := hide (parD_at (List.getElem?_eq_getElem hk))
          generalize T[k].par = pv at d1 HP
          have hbl : b < wr.heap.size := World.block_lt_of_cell? wr _ hx.c0
          have HR := hide ((unhide HO).alloc (.cells #[.int .i64 (k : Int)] 3))
          have HL2 : Hid (lineD T c = (pre ++ [k]) ++ lineR T (T.length + 1 - (pre ++ [k]).length) pv) := hide (by
            have := unhide HL
            rw [show T.length + 1 - pre.length = (T.length + 1 - (pre ++ [k]).length) + 1 from by simp; omega, lineR_in _ hk, unhide HP] at this
            rw [this]
            simp)
          clear hx hTb HL HP h0 h1
          go_wp2_with (at_builtin; refine wpList_append_own _ rfl _ _ 42 rfl w.heap.size 3 i0 (.int .i64 0) 1 8 Tryd.underlying42 hi hz0 hz1 hz2 rfl (by decide) _ pre.length (ivals pre) rfl (unhide HR) ⟨wr.heap.size, 0, none⟩ 1 1 [.int .i64 (k : Int)] rfl rfl (cell_one_newI _ _ _) (by simp [Value.oneCell']) ?a3 ?a4 ?a5 ?_)
          case a3 => have := unhide HT; unfold maxLen; omega
          case a4 => have := unhide HT; omega
          case a5 => have := (unhide HB).size; simp; omega
          intro v' w2 hO' hG' _
          have hB2 : Below w.heap.size w w2 := (((unhide HB).alloc (unhide HB).size _).grown hG' (by have := (unhide HB).size; simp; omega) (fun k e => ((unhide HO).lt k e).1))
          have d1' : w2.cell? ⟨b, off + k * 3 + 1, none⟩ = some (.int .i64 pv) := by
            obtain ⟨b2, off2, e2, hx2⟩ := (unhide H).below hB2 k _ (List.getElem?_eq_getElem hk)
            injection e2 with e2
            injection e2 with e2 e3
            subst e2 e3
            obtain ⟨b3, off3, e3, hx3⟩ := (unhide H).below (unhide HB) k _ (List.getElem?_eq_getElem hk)
            injection e3 with e3
            injection e3 with e3 e4
            subst e3 e4
            have a1 := hx3.c1
            rw [d1] at a1
            injection a1 with a1
            rw [a1]
            exact hx2.c1
          have HO2 : Hid (OwnI w2 w.heap.size v' (pre ++ [k])) := hide (by unfold OwnI ivals; rw [List.map_append, List.length_append]; exact hO')
          have HB2 := hide hB2
          obtain ⟨oa', oc', rfl, _⟩ := (unhide HO2).slice
          clear hO' hG' hB2 d1 HR HB HO
          go_wp2
          go_roundw
          case rel => exact ⟨pre ++ [k], pv, rfl, HO2, HB2, by simp; omega, HL2⟩
          case measure => simp; omega
        · have j2 : ¬ ((pre.length : Nat) : Int) ≤ ((T.length : Nat) : Int) := by omega
          have HR : Hid (lineD T c = pre) := hide (by
            rw [unhide HL, show T.length + 1 - pre.length = 0 from by omega]
            simp [lineR])
          go_wp2
          go_ret
          exact ⟨_, rfl, by rw [unhide HR]; exact unhide HO, unhide HB⟩
      · have HR : Hid (lineD T c = pre) := hide (by rw [unhide HL, lineR_out _ (by omega)]; simp)
        go_wp2
        go_ret
        exact ⟨_, rfl, by rw [unhide HR]; exact unhide HO, unhide HB⟩
    · have j0 : ¬ cur ≥ 0 := h0
      have HR : Hid (lineD T c = pre) := hide (by rw [unhide HL, lineR_out _ (by omega)]; simp)
      go_wp2
      go_ret
      exact ⟨_, rfl, by rw [unhide HR]; exact unhide HO, unhide HB⟩
end Go.Proofs.YtbiofkgdbdjdnaaDoor
