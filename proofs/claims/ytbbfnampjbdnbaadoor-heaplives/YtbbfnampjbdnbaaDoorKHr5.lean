/-
  The document's heap: Put. Conditions: lengths fit.
-/
import Derived.Test.YtbbfnampjbdnbaaDoorJHA
import Derived.Laws.OwnMore
namespace Go.Proofs.YtbbfnampjbdnbaaDoor
open Go.RowKit
set_option maxRecDepth 20000
set_option linter.unusedVariables false
set_option linter.unusedSimpArgs false

theorem own_storeJ {w : World} {B g n cap : Nat} {l : List Int} (h : OwnJ w B (.slice (some ⟨g, 0, none⟩) n cap) l) (hn : l.length = n) (k : Nat) (v : Int) : OwnJ (w.setCell ⟨g, k, none⟩ (.int .i64 v)) B (.slice (some ⟨g, 0, none⟩) n cap) (l.set k v) := by
  subst hn
  have := (World.ownsRow.stored h k (.int .i64 v)).1
  unfold OwnJ
  rw [List.length_set]
  have e : jvals (l.set k v) = (jvals l).set k (.int .i64 v) := by unfold jvals; rw [List.map_set]
  rw [e]
  exact this
theorem own_other {W : World} {base : Nat} {e : TypeId} {sz n : Nat} {v : Value} {xs : List Value} (h : W.ownsRow base e sz v n xs) {b : Nat} (hb : v.ownBlock ≠ some b) (i : Nat) (u : Value) : (W.setCell ⟨b, i, none⟩ u).ownsRow base e sz v n xs := by
  refine ⟨h.1, ?_⟩
  rcases h.2 with h' | ⟨g, cap, cur, h1, h2, h3, h4⟩
  · exact Or.inl h'
  · refine Or.inr ⟨g, cap, cur, h1, h2, ?_, h4⟩
    refine (Below.heap_setCell W ⟨b, i, none⟩ u g (fun e2 => hb ?_)).trans h3
    have e2 : g = b := e2
    rw [h1, ← e2]
    rfl
theorem map_set_same {α β : Type} (f : α → β) : ∀ {l : List α} {i : Nat} {x y : α}, l[i]? = some x → f y = f x → (l.set i y).map f = l.map f
  | [], _, _, _, h, _ => by simp at h
  | a :: l, 0, x, y, h, e => by
    have : a = x := by simpa using h
    subst this
    simp [e]
  | a :: l, i + 1, x, y, h, e => by
    rw [List.set_cons_succ, List.map_cons, List.map_cons, map_set_same f (by simpa using h) e]
theorem rbvals_map (R : List Rb) : rbvals R = (R.map rbC).flatten := by unfold rbvals; rw [List.flatMap_def]
theorem RpAt.put {B : Nat} {W : World} {g : Nat} {p : Rp} (H : RpAt B W g p) {i : Nat} {x : Rb} (hx : p.R[i]? = some x) {pb : Nat} {pc : Nat} (hp : x.pv = .slice (some ⟨pb, 0, none⟩) x.ps.length pc) (j : Nat) (v : Int) :
    RpAt B (W.setCell ⟨pb, j, none⟩ (.int .i64 v)) g { p with R := p.R.set i { x with ps := x.ps.set j v } } ∧ Kp B [3] W (W.setCell ⟨pb, j, none⟩ (.int .i64 v)) ∧ W.frozen? ⟨pb, j, none⟩ = false := by
  have hm := List.mem_of_getElem? hx
  obtain ⟨hlo, cs, t, fr, hcell, ht⟩ := own_block (H.pls x hm) pb (by rw [hp]; rfl)
  rw [List.mem_singleton] at ht
  have hfr : fr = (0, 0) := by
    rcases (H.pls x hm).2 with ⟨h1, _⟩ | ⟨g', cap, cur, h1, _, h3, _⟩
    · rw [hp] at h1; cases h1
    · rw [hp] at h1
      injection h1 with h1
      injection h1 with h1
      injection h1 with h1
      subst h1
      rw [h3] at hcell
      injection hcell with hcell
      injection hcell with _ _ h5
      exact h5.symm
  subst ht hfr
  have bx : Bx W pb 3 cs := hcell
  have hk : Kp B [3] W (W.setCell ⟨pb, j, none⟩ (.int .i64 v)) := Kp.set bx hlo (by simp) j _
  have hil := (List.getElem?_eq_some_iff.1 hx).1
  refine ⟨⟨H.lo, H.box.kp hk (by decide), ?_, ?_, ?_⟩, hk, bx.f j⟩
  · show World.ownsRow _ B _ 3 p.ov (p.R.set i _).length (rbvals (p.R.set i _))
    rw [List.length_set, rbvals_map, map_set_same rbC hx (by rfl), ← rbvals_map]
    exact own_kp H.own hk (by decide)
  · intro y hy
    have hy : y ∈ p.R.set i { x with ps := x.ps.set j v } := hy
    obtain ⟨k, hk', e⟩ := List.mem_iff_getElem.1 hy
    rw [List.getElem_set] at e
    split at e
    · subst e
      show OwnJ _ B x.pv (x.ps.set j v)
      have := H.pls x hm
      rw [hp] at this ⊢
      exact own_storeJ this rfl j v
    · rename_i hne
      have hkl : k < p.R.length := by rw [List.length_set] at hk'; exact hk'
      have hyy : p.R[k] = y := e
      refine own_other (H.pls y (by rw [← hyy]; exact List.getElem_mem hkl)) (fun e2 => ?_) j _
      have hxx : p.R[i] = x := (List.getElem?_eq_some_iff.1 hx).2
      have e3 : x.pv.ownBlock = some pb := by rw [hp]; rfl
      rcases Nat.lt_or_gt_of_ne hne with h1 | h1
      · have := List.pairwise_iff_getElem.1 H.nd i k hil hkl h1 pb (by rw [hxx]; exact e3)
        rw [hyy] at this
        exact this e2
      · have := List.pairwise_iff_getElem.1 H.nd k i hkl hil h1 pb (by rw [hyy]; exact e2)
        rw [hxx] at this
        exact this e3
  · show (p.R.set i _).Pairwise (fun a b => ∀ k, a.pv.ownBlock = some k → b.pv.ownBlock ≠ some k)
    have h1 : (p.R.map Rb.pv).Pairwise (fun a b => ∀ k, a.ownBlock = some k → b.ownBlock ≠ some k) := List.pairwise_map.2 H.nd
    rw [← map_set_same Rb.pv (y := { x with ps := x.ps.set j v }) hx (by rfl)] at h1
    exact List.pairwise_map.1 h1
def putEr (R : List Rb) (ref i v : Int) : Int := if getE R ref i = 0 then (if v < -2147483648 ∨ 2147483647 < v then 5 else 0) else getE R ref i
def putR (R : List Rb) (ref i v : Int) : List Rb := if putEr R ref i v = 0 then (match thrD R ref with | some x => R.set (ref - 1).toNat { x with ps := x.ps.set i.toNat v } | none => R) else R
theorem get_zero {R : List Rb} {ref i : Int} (h : getE R ref i = 0) : ∃ (k j : Nat) (x : Rb) (v : Int), ref = (k : Int) + 1 ∧ i = (j : Int) ∧ R[k]? = some x ∧ x.t = true ∧ thrD R ref = some x ∧ x.ps[j]? = some v := by
  rcases flt_cases R ref with ⟨h1, h2⟩ | ⟨h1, k, x, h2, h3, h4, h5⟩
  · unfold getE at h
    rw [h2] at h
    exact absurd h h1
  · unfold getE at h
    rw [h5] at h
    by_cases hin : 0 ≤ i ∧ i < (x.ps.length : Int)
    · refine ⟨k, i.toNat, x, x.ps[i.toNat]'(by omega), h2, by omega, h3, h4, h5, List.getElem?_eq_getElem (by omega)⟩
    · have h : (if 0 ≤ i ∧ i < (x.ps.length : Int) then (0 : Int) else 142) = 0 := h
      rw [if_neg hin] at h
      exact absurd h (by decide)
set_option maxHeartbeats 2000000 in
theorem refPut_any (B g : Nat) (p : Rp) (ref i v : Int) (w : World) (H : RpAt B w g p) (hl : p.R.length ≤ 4611686018427387904) :
    Calls Tryd.prog 23 #[.pointer (some ⟨g, 0, none⟩), .int .i64 ref, .int .i64 i, .int .i64 v] w fun e w' => e = .returned (.int .i64 (putEr p.R ref i v)) ∧ RpAt B w' g { p with R := putR p.R ref i v } ∧ Kp B [3] w w' := by
  have HG := hide (refGet_any B g p ref i w H hl)
  by_cases h0 : getE p.R ref i = 0
  · rw [h0] at HG
    obtain ⟨k, j, x, y, rfl, rfl, hx, ht, hth, hy⟩ := get_zero h0
    by_cases hv : v < -2147483648 ∨ 2147483647 < v
    · have HP : Hid (putEr p.R ((k : Int) + 1) (j : Int) v = 5 ∧ ({ p with R := putR p.R ((k : Int) + 1) (j : Int) v } : Rp) = p) := hide (by
        have : putEr p.R ((k : Int) + 1) (j : Int) v = 5 := by unfold putEr; rw [if_pos h0, if_pos hv]
        exact ⟨this, by unfold putR; rw [this]; rfl⟩)
      have HH := hide H
      clear H h0 hx ht hth hy
      rw [(unhide HP).1, (unhide HP).2]
      go_enter Tryd.func23, Tryd.ntmps23
      rcases hv with hv | hv
      · go_wp2_with (go_at_call 21; refine (unhide HG).mono ?_; rintro e w9 ⟨rfl, hw⟩; rw [hw]; clear hw)
        go_ret
        exact ⟨rfl, unhide HH, Kp.refl _ _ _⟩
      · have hv' : ¬ v < -2147483648 := by omega
        go_wp2_with (go_at_call 21; refine (unhide HG).mono ?_; rintro e w9 ⟨rfl, hw⟩; rw [hw]; clear hw)
        go_ret
        exact ⟨rfl, unhide HH, Kp.refl _ _ _⟩
    · obtain ⟨b, cap, pa, pc, hov, q0, q1, q2, hpv⟩ := H.there hx
      have c2 := H.box.c 2 (v := p.ov) rfl
      rw [hov] at c2
      have hpl := H.pls x (List.mem_of_getElem? hx)
      have hi : k < p.R.length := (List.getElem?_eq_some_iff.1 hx).1
      have hjl : j < x.ps.length := (List.getElem?_eq_some_iff.1 hy).1
      obtain ⟨pb, rfl⟩ : ∃ pb, pa = some ⟨pb, 0, none⟩ := by
        rcases hpl.2 with ⟨h1, h2⟩ | ⟨g', cap', cur, h1, _⟩
        · omega
        · rw [hpv] at h1
          injection h1 with h1
          exact ⟨g', h1⟩
      have hcj : w.cell? ⟨pb, j, none⟩ = some (.int .i64 y) := by
        have hpl2 := hpl
        rw [hpv] at hpl2
        obtain ⟨pa', pc', hpe, hja, _⟩ := hpl2.at
        obtain ⟨pb', po, e, hc⟩ := hja j y hy
        injection hpe with hpe
        rw [← hpe] at e
        injection e with e
        injection e with e1 e2
        subst e1 e2
        rwa [Nat.zero_add] at hc
      have HX := hide (H.put hx hpv j v)
      have hfz := (unhide HX).2.2
      have HP : Hid (putEr p.R ((k : Int) + 1) (j : Int) v = 0 ∧ putR p.R ((k : Int) + 1) (j : Int) v = p.R.set k { x with ps := x.ps.set j v }) := hide (by
        have : putEr p.R ((k : Int) + 1) (j : Int) v = 0 := by unfold putEr; rw [if_pos h0, if_neg hv]
        refine ⟨this, ?_⟩
        unfold putR
        rw [if_pos this, hth]
        have e : ((k : Int) + 1 - 1).toNat = k := by omega
        show p.R.set ((k : Int) + 1 - 1).toNat _ = _
        rw [e]
        rfl)
      rw [(unhide HP).1, (unhide HP).2]
      have v1 : ¬ v < -2147483648 := by omega
      have v2 : ¬ 2147483647 < v := by omega
      have hi2 : ((k : Nat) : Int) < ((p.R.length : Nat) : Int) := by omega
      have hj2 : ((j : Nat) : Int) < ((x.ps.length : Nat) : Int) := by omega
      have HL : Hid (p.R.length ≤ 4611686018427387904) := hide hl
      obtain ⟨n, HN⟩ : ∃ n, Hid (p.R.length = n) := ⟨_, hide rfl⟩
      obtain ⟨m, HM⟩ : ∃ m, Hid (x.ps.length = m) := ⟨_, hide rfl⟩
      rw [unhide HN] at c2 hi2 hl
      rw [unhide HM] at q2 hj2
      clear H hov h0 hx ht hth hy hpl hv q0 q1 hpv hi hjl
      go_enter Tryd.func23, Tryd.ntmps23
      go_wp2_with (go_at_call 21; refine (unhide HG).mono ?_; rintro e w9 ⟨rfl, hw⟩; rw [hw]; clear hw)
      go_ret
      exact ⟨rfl, (unhide HX).1, (unhide HX).2.1⟩
  · have HP : Hid (putEr p.R ref i v = getE p.R ref i ∧ ({ p with R := putR p.R ref i v } : Rp) = p) := hide (by
      have : putEr p.R ref i v = getE p.R ref i := by unfold putEr; rw [if_neg h0]
      exact ⟨this, by unfold putR; rw [this, if_neg h0]⟩)
    have t0 : (getE p.R ref i != 0) = true := bne_t h0
    have HH := hide H
    rw [(unhide HP).1, (unhide HP).2]
    generalize getE p.R ref i = er at *
    generalize getW p.R ref i = gw at *
    clear H h0
    go_enter Tryd.func23, Tryd.ntmps23
    go_wp2_with (go_at_call 21; refine (unhide HG).mono ?_; rintro e w9 ⟨rfl, hw⟩; rw [hw]; clear hw)
    go_ret
    exact ⟨rfl, unhide HH, Kp.refl _ _ _⟩
end Go.Proofs.YtbbfnampjbdnbaaDoor
