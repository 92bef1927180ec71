/-
  Texts of contracts and plain lemmas, one behind another; each says at its head what it holds.
-/
import Derived.Test.YtbbfnampjbdnbaaDoorKHr8
import Derived.Test.YtbbfnampjbdnbaaDoorKHr5
import Derived.Test.YtbbfnampjbdnbaaDoorJHA
import Derived.Test.YtbbfnampjbdnbaaDoorKHr3
import Derived.Test.YtbbfnampjbdnbaaDoorKHr3a
import Derived.Test.YtbbfnampjbdnbaaDoorKHq13
import Derived.Test.YtbbfnampjbdnbaaDoorKHl1
/-
  The document's Collect, plainly: what is taken away, in memory and in both heaps. No Go in it.
-/
namespace Go.Proofs.YtbbfnampjbdnbaaDoor
open Go.RowKit
set_option maxRecDepth 20000
set_option linter.unusedVariables false
set_option linter.unusedSimpArgs false

/-- No object. -/
def rbZ : Rb := ⟨false, 0, .slice none 0 0, []⟩
def zapR (R : List Rb) (D : List Bool) : Nat → List Rb
  | 0 => R
  | k + 1 => if D[k + 1]? = some true then zapR R D k else (zapR R D k).set k rbZ
theorem zap_len (R : List Rb) (D : List Bool) : ∀ k, (zapR R D k).length = R.length
  | 0 => rfl
  | k + 1 => by
    rw [zapR]
    split
    · exact zap_len R D k
    · rw [List.length_set]; exact zap_len R D k
theorem zap_get {R : List Rb} {D : List Bool} : ∀ (k : Nat) {i : Nat} {x : Rb}, R[i]? = some x → (zapR R D k)[i]? = some (if i < k ∧ D[i + 1]? ≠ some true then rbZ else x)
  | 0, i, x, h => by rw [zapR, if_neg (by omega)]; exact h
  | k + 1, i, x, h => by
    have ih := zap_get (D := D) k h
    have hl := (List.getElem?_eq_some_iff.1 h).1
    rw [zapR]
    by_cases hD : D[k + 1]? = some true
    · rw [if_pos hD, ih]
      by_cases e : i = k
      · subst e
        rw [if_neg (by omega), if_neg (by intro hh; exact hh.2 hD)]
      · by_cases hi : i < k ∧ D[i + 1]? ≠ some true
        · rw [if_pos hi, if_pos ⟨by omega, hi.2⟩]
        · rw [if_neg hi, if_neg (fun hh => hi ⟨by omega, hh.2⟩)]
    · rw [if_neg hD]
      by_cases e : i = k
      · subst e
        rw [if_pos ⟨by omega, hD⟩, List.getElem?_set_self (by rw [zap_len]; exact hl)]
      · rw [List.getElem?_set_ne (fun e2 => e e2.symm), ih]
        by_cases hi : i < k ∧ D[i + 1]? ≠ some true
        · rw [if_pos hi, if_pos ⟨by omega, hi.2⟩]
        · rw [if_neg hi, if_neg (fun hh => hi ⟨by omega, hh.2⟩)]
theorem used_set : ∀ {R : List Rb} {i : Nat}, usedR (R.set i rbZ) ≤ usedR R
  | [], i => by simp
  | x :: R, 0 => by rw [List.set_cons_zero, usedR, usedR]; simp [rbZ]
  | x :: R, i + 1 => by rw [List.set_cons_succ, usedR, usedR]; have := @used_set R i; omega
theorem zap_used (R : List Rb) (D : List Bool) : ∀ k, usedR (zapR R D k) ≤ usedR R
  | 0 => Nat.le_refl _
  | k + 1 => by
    rw [zapR]
    split
    · exact zap_used R D k
    · exact Nat.le_trans used_set (zap_used R D k)
theorem rbvals_cons (x : Rb) (R : List Rb) : rbvals (x :: R) = .bool x.t :: .int .i64 x.c :: x.pv :: rbvals R := rfl
theorem rbvals_set : ∀ {R : List Rb} {i : Nat} {z : Rb}, i < R.length → rbvals (R.set i z) = (((rbvals R).set (i * 3) (.bool z.t)).set (i * 3 + 1) (.int .i64 z.c)).set (i * 3 + 2) z.pv
  | [], i, z, h => by simp at h
  | x :: R, 0, z, h => by rw [List.set_cons_zero, rbvals_cons, rbvals_cons]; rfl
  | x :: R, i + 1, z, h => by
    rw [List.set_cons_succ, rbvals_cons, rbvals_cons, rbvals_set (by simpa using h)]
    have e : (i + 1) * 3 = i * 3 + 1 + 1 + 1 := by omega
    rw [e]
    have e1 : i * 3 + 1 + 1 + 1 + 1 = (i * 3 + 1) + 1 + 1 + 1 := by omega
    have e2 : i * 3 + 1 + 1 + 1 + 2 = (i * 3 + 2) + 1 + 1 + 1 := by omega
    rw [e2, List.set_cons_succ, List.set_cons_succ, List.set_cons_succ, List.set_cons_succ, List.set_cons_succ, List.set_cons_succ, List.set_cons_succ, List.set_cons_succ, List.set_cons_succ]
theorem RpAt.zap {B : Nat} {W : World} {g : Nat} {p : Rp} (H : RpAt B W g p) {i : Nat} (hi : i < p.R.length) {b cap : Nat} (hov : p.ov = .slice (some ⟨b, 0, none⟩) p.R.length cap) :
    RpAt B (W.setCells b (i * 3) [.bool false, .int .i64 0, .slice none 0 0]) g { p with R := p.R.set i rbZ } ∧ Kp B [87] W (W.setCells b (i * 3) [.bool false, .int .i64 0, .slice none 0 0]) ∧ W.there b (i * 3) 3 := by
  obtain ⟨hlo, cs, t, fr, hcell, ht⟩ := own_block H.own b (by rw [hov]; rfl)
  rw [List.mem_singleton] at ht
  have hfr : fr = (0, 0) := by
    rcases H.own.2 with ⟨h1, _⟩ | ⟨g', cap', cur, h1, _, h3, _⟩
    · rw [hov] at h1; cases h1
    · rw [hov] at h1
      injection h1 with h1
      injection h1 with h1
      injection h1 with h1
      subst h1
      rw [h3] at hcell
      injection hcell with hcell
      injection hcell with _ _ h5
      exact h5.symm
  subst ht hfr
  have bx : Bx W b 87 cs := hcell
  have k1 : Kp B [87] W (W.setCell ⟨b, i * 3, none⟩ (.bool false)) := Kp.set bx hlo (by simp) _ _
  have bx1 : Bx (W.setCell ⟨b, i * 3, none⟩ (.bool false)) b 87 (cs.setIfInBounds (i * 3) (.bool false)) := bx.set _ _ rfl
  have k2 : Kp B [87] _ ((W.setCell ⟨b, i * 3, none⟩ (.bool false)).setCell ⟨b, i * 3 + 1, none⟩ (.int .i64 0)) := Kp.set bx1 hlo (by simp) _ _
  have bx2 : Bx ((W.setCell ⟨b, i * 3, none⟩ (.bool false)).setCell ⟨b, i * 3 + 1, none⟩ (.int .i64 0)) b 87 ((cs.setIfInBounds (i * 3) (.bool false)).setIfInBounds (i * 3 + 1) (.int .i64 0)) := bx1.set _ _ rfl
  have k3 : Kp B [87] _ (((W.setCell ⟨b, i * 3, none⟩ (.bool false)).setCell ⟨b, i * 3 + 1, none⟩ (.int .i64 0)).setCell ⟨b, i * 3 + 2, none⟩ (.slice none 0 0)) := Kp.set bx2 hlo (by simp) _ _
  have hk := (k1.trans k2).trans k3
  have own0 := H.own
  rw [hov] at own0
  have o1 := (World.ownsRow.stored own0 (i * 3) (.bool false)).1
  have o2 := (World.ownsRow.stored o1 (i * 3 + 1) (.int .i64 0)).1
  have o3 := (World.ownsRow.stored o2 (i * 3 + 2) (.slice none 0 0)).1
  refine ⟨⟨H.lo, H.box.kp hk (by decide), ?_, ?_, ?_⟩, hk, ?_⟩
  · show World.ownsRow _ B _ 3 p.ov (p.R.set i rbZ).length (rbvals (p.R.set i rbZ))
    rw [List.length_set, rbvals_set hi, hov]
    exact o3
  · intro y hy
    have hy : y ∈ p.R.set i rbZ := hy
    rcases List.mem_or_eq_of_mem_set hy with h | h
    · exact own_kp (H.pls y h) hk (by decide)
    · subst h; exact OwnJ.nil _ _
  · show (p.R.set i rbZ).Pairwise _
    rw [List.pairwise_iff_getElem]
    intro a c ha hc hac k hk1 hk2
    rw [List.getElem_set] at hk1 hk2
    split at hk1
    · cases hk1
    · split at hk2
      · cases hk2
      · exact List.pairwise_iff_getElem.1 H.nd a c (by simpa using ha) (by simpa using hc) hac k hk1 hk2
  · obtain ⟨x, hx⟩ : ∃ x, p.R[i]? = some x := ⟨_, List.getElem?_eq_getElem hi⟩
    obtain ⟨b', cap', hov', c0, c1, c2⟩ := H.ob hx
    rw [hov] at hov'
    obtain rfl : b = b' := by injection hov' with e1; injection e1 with e1; injection e1
    intro j hj
    refine ⟨?_, bx.f _⟩
    match j, hj with
    | 0, _ => rw [Nat.add_zero, c0]; rfl
    | 1, _ => rw [c1]; rfl
    | 2, _ => rw [c2]; rfl
/-! ### Both heaps -/
theorem keep_filter : ∀ {O : List Ob} {C : List Bool} (P : Int → Bool), O.length = C.length → (∀ (k : Nat) (o : Ob), O[k]? = some o → (C[k]? = some true ↔ P o.ref = true)) → keepO O C = O.filter (fun o => P o.ref)
  | [], [], P, _, _ => rfl
  | [], c :: C, P, h, _ => by simp at h
  | o :: O, [], P, h, _ => by simp at h
  | o :: O, c :: C, P, h, hk => by
    have ih := keep_filter (O := O) (C := C) P (by simpa using h) (fun k x hx => by have := hk (k + 1) x (by simpa using hx); simpa using this)
    have h0 := hk 0 o rfl
    cases c with
    | true =>
      have : P o.ref = true := h0.1 (by simp)
      rw [List.filter_cons_of_pos (by simpa using this), ← ih]
      rfl
    | false =>
      have : ¬ P o.ref = true := fun e => by have := h0.2 e; simp at this
      rw [List.filter_cons_of_neg (by simpa using this), ← ih]
      rfl
theorem liv_filter : ∀ {R R' : List Rb} (k : Nat) (P : Int → Bool), R'.length = R.length → (∀ (i : Nat) (x : Rb), R[i]? = some x → R'[i]? = some (if P ((k : Int) + (i : Int) + 1) = true then x else rbZ)) → liv R' k = (liv R k).filter (fun q => P q.1)
  | [], [], k, P, _, _ => rfl
  | [], y :: R', k, P, h, _ => by simp at h
  | x :: R, [], k, P, h, _ => by simp at h
  | x :: R, y :: R', k, P, h, hk => by
    have ih := liv_filter (R := R) (R' := R') (k + 1) P (by simpa using h) (fun i z hz => by
      have := hk (i + 1) z (by simpa using hz)
      rw [show ((k + 1 : Nat) : Int) + (i : Int) + 1 = (k : Int) + ((i + 1 : Nat) : Int) + 1 by push_cast; omega]
      simpa using this)
    have h0 := hk 0 x rfl
    have h0 : some y = some (if P ((k : Int) + ((0 : Nat) : Int) + 1) = true then x else rbZ) := h0
    injection h0 with h0
    rw [show (k : Int) + ((0 : Nat) : Int) + 1 = (k : Int) + 1 by omega] at h0
    rw [liv, liv, List.filter_append, ih]
    congr 1
    by_cases hP : P ((k : Int) + 1) = true
    · rw [if_pos hP] at h0
      subst h0
      cases y.t <;> simp [hP]
    · rw [if_neg hP] at h0
      subst h0
      have hP : P ((k : Int) + 1) = false := by simpa using hP
      cases x.t <;> simp [rbZ, hP]
theorem Both.col {T : List Cl} {h : Hm} {R : List Rb} {Q : List Int} (H : Both T h R) {C D : List Bool} (hC : ComIs h Q C) (hD : MrkR T R Q D) (ov : Value) : Both T (colH h C ov) (zapR R D R.length) ∧ (goneN h.O C : Int) = (usedR R : Int) - (usedR (zapR R D R.length) : Int) := by
  have hok := H.ok.col hC.1 ov
  have hmark : ∀ (k : Nat) (o : Ob), h.O[k]? = some o → (C[k]? = some true ↔ D[o.ref.toNat]? = some true) := fun k o ho => by
    have hr := H.ok.refs o (List.mem_of_getElem? ho)
    have e : ((o.ref.toNat : Nat) : Int) = o.ref := by omega
    rw [hC.2, hD.2, e]
    refine ⟨fun hh => H.to hh o ho, fun hh => ?_⟩
    obtain ⟨k', o', h1, h2, h3⟩ := H.fro hh
    have : k = k' := by
      obtain ⟨a1, a2⟩ := List.getElem?_eq_some_iff.1 ho
      obtain ⟨b1, b2⟩ := List.getElem?_eq_some_iff.1 h1
      rcases Nat.lt_trichotomy k k' with hlt | hlt | hlt
      · have := List.pairwise_iff_getElem.1 H.ok.asc k k' a1 b1 hlt; rw [a2, b2] at this; omega
      · exact hlt
      · have := List.pairwise_iff_getElem.1 H.ok.asc k' k b1 a1 hlt; rw [a2, b2] at this; omega
    subst this
    exact h3
  have hk := keep_filter (O := h.O) (C := C) (fun r => D[r.toNat]? == some true) hC.1.symm (fun k o ho => by rw [hmark k o ho]; simp)
  have hl := liv_filter (R := R) (R' := zapR R D R.length) 0 (fun r => D[r.toNat]? == some true) (zap_len R D _) (fun i x hx => by
    rw [zap_get _ hx]
    have hi := (List.getElem?_eq_some_iff.1 hx).1
    have e : (((0 : Nat) : Int) + (i : Int) + 1).toNat = i + 1 := by omega
    rw [e]
    by_cases hd : D[i + 1]? = some true
    · rw [if_neg (fun hh => hh.2 hd), if_pos (by simp [hd])]
    · rw [if_pos ⟨hi, hd⟩, if_neg (by simpa using hd)])
  have tw : Twn (colH h C ov) (zapR R D R.length) := by
    refine ⟨?_, ?_⟩
    · show h.last = _
      rw [zap_len]
      exact H.tw.last
    · show (keepO h.O C).map keyO = _
      rw [hl, ← H.tw.obs, hk, List.filter_map]
      rfl
  refine ⟨⟨tw, hok, H.len, H.lds⟩, ?_⟩
  have h1 := H.tw.used H.ok
  have h2 := tw.used hok
  have h2 : h.used - (goneN h.O C : Int) = _ := h2
  omega
end Go.Proofs.YtbbfnampjbdnbaaDoor

/-
  The document's heap: Collect, the walk. Conditions: lengths fit; the objects are the table's records, or rows; what lives takes at most 4096 cells.
-/
namespace Go.Proofs.YtbbfnampjbdnbaaDoor
open Go.RowKit
set_option maxRecDepth 20000
set_option linter.unusedVariables false
set_option linter.unusedSimpArgs false

/-- Memory while it is taken away: the marks. -/
structure CM (W0 : World) (cb : Nat) (W : World) (S : List Bool) : Prop where
  bel : Below W0.heap.size W0 W
  row : Bx W cb 4 (S.map (fun b => Value.bool b)).toArray
  gc : W0.heap.size ≤ cb
theorem CM.mark {W0 : World} {cb : Nat} {W : World} {S : List Bool} (h : CM W0 cb W S) (k : Nat) : CM W0 cb (W.setCell ⟨cb, k, none⟩ (.bool true)) (S.set k true) := by
  have hk : Kp W0.heap.size [4] W (W.setCell ⟨cb, k, none⟩ (.bool true)) := Kp.set h.row h.gc (by simp) k _
  refine ⟨h.bel.trans hk.bel, h.row.set k _ ?_, h.gc⟩
  show _ = _
  apply Array.ext'
  rw [Array.toList_setIfInBounds]
  simp [List.map_set]
/-- So many of a list are marked. -/
def MkT (S : List Bool) (n : Nat) (L : List Int) : Prop := S.length = n + 1 ∧ ∀ i : Nat, S[i]? = some true ↔ (i : Int) ∈ L
theorem MkT.start (n : Nat) : MkT (List.replicate (n + 1) false) n [] := ⟨by simp, fun i => by
  rw [List.getElem?_replicate]
  constructor
  · intro h; split at h <;> simp at h
  · intro h; cases h⟩
theorem MkT.next {S : List Bool} {n : Nat} {L : List Int} (h : MkT S n L) {k : Nat} (hk : k < n + 1) : MkT (S.set k true) n (L ++ [(k : Int)]) := by
  have hl : k < S.length := by rw [h.1]; exact hk
  refine ⟨by rw [List.length_set]; exact h.1, fun i => ?_⟩
  rw [List.mem_append, List.mem_singleton, ← h.2 i]
  by_cases e : i = k
  · subst e; simp [hl]
  · rw [List.getElem?_set_ne (fun e2 => e e2.symm)]
    constructor
    · intro h1; exact Or.inl h1
    · rintro (h1 | h1)
      · exact h1
      · omega
theorem MkT.mrk {T : List Cl} {R : List Rb} {Q : List Int} {S D : List Bool} (h : MkT S R.length (outT D (R.length + 1))) (hD : MrkR T R Q D) : MrkR T R Q S := by
  refine ⟨h.1, fun i => ?_⟩
  rw [h.2, outT_mem, ← hD.2]
  constructor
  · rintro ⟨j, e, _, _, h4⟩
    have : i = j := by omega
    subst this
    exact h4
  · intro hi
    have h1 := thr_range ((hD.2 i).1 hi).there
    exact ⟨i, rfl, by omega, by omega, hi⟩
/-- What the document's Collect answers. -/
def RColIs (T : List Cl) (p : Rp) (Q : List Int) (p' : Rp) (n er : Int) : Prop :=
  (badRR p.R Q ∧ n = 0 ∧ er = 141 ∧ p' = p) ∨ (¬ badRR p.R Q ∧ er = 0 ∧ ∃ D, MrkR T p.R Q D ∧ p' = { p with R := zapR p.R D p.R.length } ∧ n = (usedR p.R : Int) - (usedR (zapR p.R D p.R.length) : Int))
set_option maxRecDepth 20000 in
set_option maxHeartbeats 8000000 in
theorem refCollect_any (B g : Nat) (p : Rp) (qo : Option Addr) (qc : Nat) (Q : List Int) (ao : Option Addr) (cap : Nat) (T : List Cl) (w : World) (H : RpAt B w g p) (hlv : p.lv = .slice ao T.length cap) (hT : TabAt w ao T) (hz : T.length * 48 ≤ 140737488351232) (hm : madeD T = true) (hcl : RpCls T p.R) (hu : usedR p.R ≤ 4096) (hl : p.R.length ≤ 3000000000000) (hQ : JsAt w qo Q) (hQl : Q.length * 8 ≤ 140737488351232) :
    Calls Tryd.prog 30 #[.pointer (some ⟨g, 0, none⟩), .slice qo Q.length qc] w fun e w' => ∃ p' n er, e = .returned (.tuple #[.int .i64 n, .int .i64 er]) ∧ RColIs T p Q p' n er ∧ RpAt B w' g p' ∧ Kp B [87] w w' := by
  have HRE := hide (refReach_any B g p qo qc Q ao cap T w H hlv hT hz hm hcl hl hQ hQl)
  have HH := hide H
  have HBB := hide H.size_le
  obtain ⟨oa, oc, hov⟩ := H.ovs
  have HOV := hide hov
  have HUS := hide (fun (W : World) (D : List Bool) (k : Nat) (h : RpAt B W g { p with R := zapR p.R D k }) => refUsed_any B g { p with R := zapR p.R D k } W h (Nat.le_trans (zap_used p.R D k) hu) (by show (zapR p.R D k).length ≤ _; rw [zap_len]; omega))
  have HZU := hide (fun (D : List Bool) (k : Nat) => Nat.le_trans (zap_used p.R D k) hu)
  obtain ⟨n, HN⟩ : ∃ n, Hid (p.R.length = n) := ⟨_, hide rfl⟩
  obtain ⟨u, HU⟩ : ∃ u, Hid (usedR p.R = u) := ⟨_, hide rfl⟩
  rw [unhide HU] at hu
  rw [unhide HN] at hl
  clear H hT hQ hlv hz hm hcl hov hQl
  go_enter Tryd.func30, Tryd.ntmps30
  go_wp2_with fail
  refine (unhide HRE).mono ?_
  rintro e W2 ⟨hr, hb2⟩
  have HH2 := hide ((unhide HH).below hb2)
  have HK2 : Hid (Kp B [87] w W2) := hide (Kp.of_below hb2 (unhide HBB))
  rcases hr with ⟨rfl, hbad⟩ | ⟨hnb, v, D, rfl, hD, hO⟩
  · have HBAD := hide hbad
    clear hbad hb2 HRE
    go_wp2
    go_ret2
    exact ⟨p, 0, 141, rfl, Or.inl ⟨unhide HBAD, rfl, rfl, rfl⟩, unhide HH2, unhide HK2⟩
  · have HNB := hide hnb
    have HD := hide hD
    rw [unhide HN] at hO
    obtain ⟨LL, HLL⟩ : ∃ LL, Hid (outT D (n + 1) = LL) := ⟨_, hide rfl⟩
    rw [unhide HLL] at hO
    obtain ⟨la, lc, rfl, hja, _⟩ := hO.at
    have HJA := hide hja
    have hll := own_lenJ hO
    have hlln : LL.length ≤ n + 1 := by rw [← unhide HLL]; exact outT_len D (n + 1)
    have HU0 := hide (unhide HUS W2 [] 0 (unhide HH2))
    have hz0 : usedR ({ p with R := zapR p.R [] 0 } : Rp).R = u := unhide HU
    rw [hz0] at HU0
    have c2 := (unhide HH2).box.c 2 (v := p.ov) rfl
    rw [unhide HOV, unhide HN] at c2
    have hmk := make_boR (N := n) (by omega) W2
    have HS0 : Hid (CM W2 W2.heap.size (W2.alloc (.cells (Array.replicate (n + 1) (Value.bool false)) 4)) (List.replicate (n + 1) false)) := hide ⟨(Below.refl _ _).alloc (Nat.le_refl _) _, by have := heap_alloc_new W2 (.cells (Array.replicate (n + 1) (Value.bool false)) 4); simpa [Bx] using this, Nat.le_refl _⟩
    clear hnb hD hb2 hO hja HRE hz0
    go_upto_region 6 with (go_at_call 32; refine (unhide HU0).mono ?_; rintro e w9 ⟨rfl, hw⟩; rw [hw]; clear hw)
    clear hmk c2
    generalize W2.alloc (.cells (Array.replicate (n + 1) (Value.bool false)) 4) = W3 at HS0 ⊢
    obtain ⟨cb, HCB⟩ : ∃ cb, cb = W2.heap.size := ⟨_, rfl⟩
    rw [← HCB] at HS0 ⊢
    clear HCB
    go_wp2_with fail
    go_loopw [10] (fun i wr => ∃ (k : Nat) (S : List Bool), k ≤ LL.length ∧ i = .int .i64 (k : Int) ∧ Hid (CM W2 cb wr S) ∧ Hid (MkT S n (LL.take k))) (fun i _ => LL.length - (intOf i).toNat)
    case atStart => exact ⟨0, _, by omega, rfl, HS0, hide (by rw [List.take_zero]; exact MkT.start n)⟩
    case round =>
      obtain ⟨k, S, hk, rfl, HS, HMK⟩ := hrel
      clear HS0
      by_cases hkl : k < LL.length
      · have i1 : ((k : Nat) : Int) < ((LL.length : Nat) : Int) := by omega
        have hv := List.getElem?_eq_getElem hkl
        generalize LL[k] = v at hv
        obtain ⟨lb, lo, rfl, hcv⟩ := (unhide HJA).below (unhide HS).bel k v hv
        obtain ⟨t, rfl, ht1, ht2, _⟩ := outT_mem.1 (show v ∈ outT D (n + 1) by rw [unhide HLL]; exact List.mem_of_getElem? hv)
        have i2 : ((t : Nat) : Int) < ((n + 1 : Nat) : Int) := by omega
        have htl : t < S.length := by rw [(unhide HMK).1]; exact ht2
        have hct := List.getElem?_eq_getElem htl
        generalize S[t] = bb at hct
        have ck : wr.cell? ⟨cb, t, none⟩ = some (.bool bb) := (unhide HS).row.c t (by simp [hct])
        have f2 := (unhide HS).row.f t
        have HS2 := hide ((unhide HS).mark t)
        have HMK2 : Hid (MkT (S.set t true) n (LL.take (k + 1))) := hide (by rw [take_step hv]; exact (unhide HMK).next ht2)
        clear hv htl hct ht1
        go_wp2
        go_roundw
        case rel => exact ⟨k + 1, _, by omega, by go_num, HS2, HMK2⟩
        case measure => simp [intOf]; omega
      · have HMR : Hid (MrkR T p.R Q S) := hide (by
          have h1 := unhide HMK
          rw [List.take_of_length_le (by omega), ← unhide HLL, ← unhide HN] at h1
          exact h1.mrk (unhide HD))
        have HSL : Hid (S.length = n + 1) := hide (unhide HMK).1
        have HRP := hide ((unhide HH2).kp (Kp.of_below (B := W2.heap.size) (ts := [4]) (W := W2) (W' := W2) (Below.refl _ _) (Nat.le_refl _)) (by decide))
        have HB0 : Hid (Kp B [87] w wr ∧ RpAt B wr g p) := hide ⟨(unhide HK2).trans (Kp.of_below (unhide HS).bel (unhide HH2).size_le), (unhide HH2).below (unhide HS).bel⟩
        have HROW := hide (unhide HS).row
        have hBcb : B ≤ cb := Nat.le_trans (unhide HH2).size_le (unhide HS).gc
        clear HS HMK HH2 HK2 HRP HH
        go_wp2_with fail
        go_loopw [11] (fun i wr => ∃ (j : Nat), j ≤ n ∧ i = .int .i64 ((j : Int) + 1) ∧ Hid (RpAt B wr g { p with R := zapR p.R S j }) ∧ Hid (Bx wr cb 4 (S.map (fun b => Value.bool b)).toArray) ∧ Hid (Kp B [87] w wr)) (fun i _ => n + 1 - (intOf i).toNat)
        case atStart => exact ⟨0, by omega, rfl, hide (unhide HB0).2, HROW, hide (unhide HB0).1⟩
        case round =>
          obtain ⟨j, hj, rfl, HP, HBX, HKr⟩ := hrel
          clear HB0 HROW
          have c2 := (unhide HP).box.c 2 (v := p.ov) rfl
          rw [unhide HOV, unhide HN] at c2
          by_cases hjn : j < n
          · have i1 : ((j : Nat) : Int) + 1 ≤ ((n : Nat) : Int) := by omega
            have i2 : ((j : Nat) : Int) + 1 < ((n + 1 : Nat) : Int) := by omega
            have i3 : ((j : Nat) : Int) < ((n : Nat) : Int) := by omega
            have hsl : j + 1 < S.length := by rw [unhide HSL]; omega
            have hcs := List.getElem?_eq_getElem hsl
            generalize S[j + 1] = bb at hcs
            have ck : wr.cell? ⟨cb, j + 1, none⟩ = some (.bool bb) := (unhide HBX).c (j + 1) (by simp [hcs])
            have HCS := hide hcs
            clear hsl hcs
            cases bb with
            | true =>
              have HP2 : Hid (RpAt B wr g { p with R := zapR p.R S (j + 1) }) := hide (by
                have e : zapR p.R S (j + 1) = zapR p.R S j := by rw [zapR, if_pos (unhide HCS)]
                rw [e]
                exact unhide HP)
              go_wp2
              go_roundw
              case rel => exact ⟨j + 1, by omega, by go_num, HP2, HBX, HKr⟩
              case measure => simp [intOf]; omega
            | false =>
              have hlen2 : (zapR p.R S j).length = n := by rw [zap_len, unhide HN]
              obtain ⟨b, ocap, hov2⟩ : ∃ b ocap, p.ov = .slice (some ⟨b, 0, none⟩) (zapR p.R S j).length ocap := by
                rcases (unhide HP).own.2 with ⟨_, h2⟩ | ⟨g', cap', cur, h1, _⟩
                · have h2 : (zapR p.R S j).length = 0 := h2; omega
                · exact ⟨g', cap', h1⟩
              have HZ := hide ((unhide HP).zap (i := j) (by show j < (zapR p.R S j).length; omega) hov2)
              have HP2 : Hid (RpAt B (wr.setCells b (j * 3) [.bool false, .int .i64 0, .slice none 0 0]) g { p with R := zapR p.R S (j + 1) }) := hide (by
                have e : zapR p.R S (j + 1) = (zapR p.R S j).set j rbZ := by rw [zapR, if_neg (by rw [unhide HCS]; simp)]
                rw [e]
                exact (unhide HZ).1)
              have HBX2 := hide ((unhide HBX).kp (unhide HZ).2.1 (by decide))
              have HK3 := hide ((unhide HKr).trans (unhide HZ).2.1)
              have hthere := (unhide HZ).2.2
              rw [hlen2, unhide HOV, unhide HN] at hov2
              obtain ⟨rfl, rfl⟩ : oa = some ⟨b, 0, none⟩ ∧ oc = ocap := by injection hov2 with e1 _ e3; exact ⟨e1, e3⟩
              clear hov2 hlen2 HZ
              go_wp2_with (refine wpList_store_mid rfl 87 (.tmp 63) (.tmp 62) rfl b (j * 3) #[.bool false, .int .i64 0, .slice none 0 0] rfl rfl hthere (by kernel_rfl) (by simp [Value.oneCell']) ?_)
              go_wp2
              go_roundw
              case rel => exact ⟨j + 1, by omega, by go_num, HP2, HBX2, HK3⟩
              case measure => simp [intOf]; omega
          · obtain rfl : j = n := by omega
            have i1 : ¬ ((j : Nat) : Int) + 1 ≤ ((j : Nat) : Int) := by omega
            have HU1 := hide (unhide HUS wr S j (unhide HP))
            have hz1 := unhide HZU S j
            obtain ⟨u2, HU2⟩ : ∃ u2, Hid (usedR (zapR p.R S j) = u2) := ⟨_, hide rfl⟩
            rw [unhide HU2] at hz1
            have HU1 : Hid (Calls Tryd.prog 32 #[.pointer (some ⟨g, 0, none⟩)] wr fun e w' => e = .returned (.int .i64 (u2 : Int)) ∧ w' = wr) := hide (by have := unhide HU1; rw [show usedR ({ p with R := zapR p.R S j } : Rp).R = u2 from unhide HU2] at this; exact this)
            have HFIN : Hid (RColIs T p Q { p with R := zapR p.R S p.R.length } ((u : Int) - (u2 : Int)) 0) := hide (Or.inr ⟨unhide HNB, rfl, S, unhide HMR, rfl, by rw [unhide HU, unhide HN, unhide HU2]⟩)
            go_wp2_with (go_at_call 32; refine (unhide HU1).mono ?_; rintro e w9 ⟨rfl, hw⟩; rw [hw]; clear hw)
            go_ret2
            exact ⟨_, (u : Int) - (u2 : Int), 0, by go_num, unhide HFIN, by rw [unhide HN]; exact unhide HP, unhide HKr⟩
end Go.Proofs.YtbbfnampjbdnbaaDoor

/-
  Both heaps side by side: their parts answer alike.
-/
namespace Go.Proofs.YtbbfnampjbdnbaaDoor
open Go.RowKit
set_option maxRecDepth 20000
set_option linter.unusedVariables false
set_option linter.unusedSimpArgs false

structure Pr (T : List Cl) (lv : Value) (B : Nat) (W : World) (g d : Nat) (h : Hm) (p : Rp) : Prop where
  hp : HpAt B W g h
  rp : RpAt B W d p
  bo : Both T h p.R
  rm : p.room = h.room
  lv : p.lv = lv
theorem Pr.below {T : List Cl} {lv : Value} {B : Nat} {W W' : World} {g d : Nat} {h : Hm} {p : Rp} (H : Pr T lv B W g d h p) (hb : Below W.heap.size W W') : Pr T lv B W' g d h p := ⟨H.hp.below hb, H.rp.below hb, H.bo, H.rm, H.lv⟩
theorem Pr.used {T : List Cl} {lv : Value} {B : Nat} {W : World} {g d : Nat} {h : Hm} {p : Rp} (H : Pr T lv B W g d h p) : h.used = (usedR p.R : Int) := H.bo.tw.used H.bo.ok
theorem Pr.ule {T : List Cl} {lv : Value} {B : Nat} {W : World} {g d : Nat} {h : Hm} {p : Rp} (H : Pr T lv B W g d h p) : (usedR p.R : Int) ≤ p.room := by rw [← H.used, H.rm]; exact H.bo.ok.fits
theorem Pr.room {T : List Cl} {lv : Value} {B : Nat} {W : World} {g d : Nat} {h : Hm} {p : Rp} (H : Pr T lv B W g d h p) : 0 ≤ p.room ∧ p.room ≤ 4096 := by rw [H.rm]; exact H.bo.ok.room
theorem Pr.u4 {T : List Cl} {lv : Value} {B : Nat} {W : World} {g d : Nat} {h : Hm} {p : Rp} (H : Pr T lv B W g d h p) : usedR p.R ≤ 4096 := by have := H.ule; have := H.room.2; omega
theorem Both.live {T : List Cl} {h : Hm} {R : List Rb} (H : Both T h R) : h.O.map Ob.ref = livR R := by
  unfold livR
  rw [← H.tw.obs, List.map_map]
  rfl
theorem Class_ex {T : List Cl} {B g : Nat} {h : Hm} {R : List Rb} (ref : Int) {w : World} (H : HpAt B w g h) (hb : Both T h R) : Calls Tryd.prog 34 #[.pointer (some ⟨g, 0, none⟩), .int .i64 ref] w fun e w' => e = .returned (.tuple #[.int .i64 (clsC R ref), .bool (clsB R ref)]) ∧ Below w.heap.size w w' := by
  refine (Class_any B g h ref w H hb.ok).mono ?_
  rintro e w' ⟨⟨c, b, rfl, hc⟩, hbl⟩
  refine ⟨?_, hbl⟩
  have ho := hb.tw.obj hb.ok ref
  have key : c = clsC R ref ∧ b = clsB R ref := by
    unfold clsC clsB
    cases hx : thrD R ref with
    | none =>
      rcases hc with ⟨_, o, h1, _⟩ | ⟨h1, h2, _⟩
      · rw [ho.2 hx] at h1; cases h1
      · exact ⟨h2, h1⟩
    | some x =>
      obtain ⟨o, h1, h2, _⟩ := ho.1 x hx
      rcases hc with ⟨h3, o', h4, _, h5, h6⟩ | ⟨h3, h4, h5⟩
      · rw [h1] at h4
        injection h4 with h4
        subst h4
        have hne : x.c ≠ -1 := by rw [← h2]; exact h6
        refine ⟨?_, ?_⟩
        · show c = if x.c = -1 then 0 else x.c
          rw [if_neg hne, h5, h2]
        · show b = decide (x.c ≠ -1)
          rw [h3, decide_eq_true hne]
      · have h7 := h5 o h1
        have he : x.c = -1 := by rw [← h2]; exact h7
        refine ⟨?_, ?_⟩
        · show c = if x.c = -1 then 0 else x.c
          rw [if_pos he, h4]
        · show b = decide (x.c ≠ -1)
          rw [h3, decide_eq_false (by simp [he])]
  rw [key.1, key.2]
theorem Len_ex {T : List Cl} {B g : Nat} {h : Hm} {R : List Rb} (ref : Int) {w : World} (H : HpAt B w g h) (hb : Both T h R) : Calls Tryd.prog 24 #[.pointer (some ⟨g, 0, none⟩), .int .i64 ref] w fun e w' => e = .returned (.tuple #[.int .i64 (lenR R ref), .int .i64 (fltR R ref)]) ∧ Below w.heap.size w w' := by
  refine (Len_any B g h ref w H hb.ok).mono ?_
  rintro e w' ⟨⟨r, c, a, n, cp, er, rfl, hI⟩, hbl⟩
  refine ⟨?_, hbl⟩
  have ho := hb.tw.obj hb.ok ref
  have key : (n : Int) = lenR R ref ∧ er = fltR R ref := by
    unfold lenR fltR
    cases hx : thrD R ref with
    | none =>
      have h0 := ho.2 hx
      rcases hI with ⟨_, o, h1, _⟩ | ⟨_, _, _, _, h5, _, h7⟩
      · rw [h0] at h1; cases h1
      · refine ⟨by rw [h5]; rfl, ?_⟩
        rcases h7 with ⟨h7, h8⟩ | ⟨h7, h8⟩
        · rw [if_pos h8, h7]
        · rw [if_neg h8, h7]; rfl
    | some x =>
      obtain ⟨o, h1, _, h3⟩ := ho.1 x hx
      have hr := (thr_some.1 hx).1
      rcases hI with ⟨h0, o', h4, _, _, _, _, _, h5, _⟩ | ⟨h4, _⟩
      · rw [h1] at h4
        injection h4 with h4
        subst h4
        refine ⟨by rw [h5, h3], ?_⟩
        rw [if_neg (by omega), h0]
        rfl
      · rw [h1] at h4; cases h4
  rw [key.1, key.2]
theorem plE_eq {T : List Cl} {h : Hm} {R : List Rb} (hb : Both T h R) (ref i : Int) : plE h.O ref i = getE R ref i ∧ getV h.O ref i = getW R ref i := by
  have ho := hb.tw.obj hb.ok ref
  unfold getV
  unfold plE getE getW getD
  cases hx : thrD R ref with
  | none =>
    rw [ho.2 hx]
    refine ⟨?_, ?_⟩
    · show (if ref = 0 then (140 : Int) else 141) = fltR R ref
      unfold fltR
      rw [hx]
      rfl
    · show (if (if ref = 0 then (140 : Int) else 141) = 0 then _ else _) = _
      split <;> rfl
  | some x =>
    obtain ⟨o, h1, _, h3⟩ := ho.1 x hx
    rw [h1]
    refine ⟨?_, ?_⟩
    · show (if 0 ≤ i ∧ i < (o.ps.length : Int) then (0 : Int) else 142) = if 0 ≤ i ∧ i < (x.ps.length : Int) then 0 else 142
      rw [h3]
    · show (if (if 0 ≤ i ∧ i < (o.ps.length : Int) then (0 : Int) else 142) = 0 then (if 0 ≤ i then o.ps.getD i.toNat 0 else 0) else 0) = if 0 ≤ i ∧ i < (x.ps.length : Int) then (x.ps[i.toNat]?).getD 0 else 0
      rw [h3]
      by_cases hin : 0 ≤ i ∧ i < (x.ps.length : Int)
      · rw [if_pos hin, if_pos rfl, if_pos hin.1, if_pos hin, List.getD_eq_getElem?_getD]
      · rw [if_neg hin, if_neg (by decide), if_neg hin]
theorem Get_ex {T : List Cl} {B g : Nat} {h : Hm} {R : List Rb} (ref i : Int) {w : World} (H : HpAt B w g h) (hb : Both T h R) : Calls Tryd.prog 20 #[.pointer (some ⟨g, 0, none⟩), .int .i64 ref, .int .i64 i] w fun e w' => e = .returned (.tuple #[.int .i64 (getW R ref i), .int .i64 (getE R ref i)]) ∧ Below w.heap.size w w' := by
  refine (Get_any B g h ref i w H hb.ok).mono ?_
  rintro e w' ⟨rfl, hbl⟩
  rw [(plE_eq hb ref i).1, (plE_eq hb ref i).2]
  exact ⟨rfl, hbl⟩
theorem own_js2 {w : World} {base : Nat} {a : Option Addr} {n c : Nat} {l : List Int} (h : OwnJ w base (.slice a n c) l) : JsAt w a l := by
  obtain ⟨a', c', e, hj, _⟩ := h.at
  injection e with e
  rw [e]
  exact hj
end Go.Proofs.YtbbfnampjbdnbaaDoor

/-
  provisolaw14.pair.act, what it leaves: both heaps are changed alike. No Go in it.
-/
namespace Go.Proofs.YtbbfnampjbdnbaaDoor
open Go.RowKit
set_option maxRecDepth 20000
set_option linter.unusedVariables false
set_option linter.unusedSimpArgs false

/-- The types of the blocks that an act writes to. -/
def tsA : List TypeId := [55, 83, 21, 61, 87, 3]
/-- What an act leaves. -/
def ActIs (T : List Cl) (lv : Value) (w0 w : World) (g d : Nat) (n : Nat) (W : World) (e : Ending) : Prop := e = .returned (.bool true) ∧ Kp w0.heap.size tsA w W ∧ ∃ h p, Pr T lv w0.heap.size W g d h p ∧ p.R.length ≤ n + 1
theorem Both.add {T : List Cl} {h : Hm} {p : Rp} (H : Both T h p.R) (hrm : p.room = h.room) {c : Int} {n : Nat} {h' : Hm} {p' : Rp} {r er r2 er2 : Int} (h1 : AddIs h c n h' r er) (h2 : RMadeIs p c n p' r2 er2) (hc : c = -1 ∨ ∃ k : Nat, c = (k : Int) ∧ ∃ x, h.L[k]? = some x ∧ x.bs.length = n) :
    r2 = r ∧ er2 = er ∧ Both T h' p'.R ∧ p'.room = h'.room ∧ p'.lv = p.lv ∧ p'.R.length ≤ p.R.length + 1 := by
  have hu := H.tw.used H.ok
  rcases h1 with ⟨a1, rfl, rfl, rfl⟩ | ⟨a1, rfl, rfl, gp, ov, rfl⟩
  · rcases h2 with ⟨b1, rfl, rfl, rfl⟩ | ⟨b1, _⟩
    · exact ⟨rfl, rfl, H, hrm, rfl, by omega⟩
    · omega
  · rcases h2 with ⟨b1, _⟩ | ⟨b1, rfl, rfl, ov2, pv, rfl⟩
    · omega
    · refine ⟨by rw [H.tw.last], rfl, ⟨H.tw.add c n gp ov pv, H.ok.add gp ov a1 hc, H.len, H.lds⟩, hrm, rfl, by simp⟩
/-- What the program's Record answers. -/
def BRecIs (h : Hm) (c : Int) (h' : Hm) (r er : Int) : Prop := ((c < 0 ∨ (h.L.length : Int) ≤ c) ∧ r = 0 ∧ er = 1 ∧ h' = h) ∨ ∃ (k : Nat) (x : Ld), c = (k : Int) ∧ h.L[k]? = some x ∧ AddIs h (k : Int) x.bs.length h' r er
theorem Both.rec_ {T : List Cl} {h : Hm} {p : Rp} (H : Both T h p.R) (hrm : p.room = h.room) {c : Int} {h' : Hm} {p' : Rp} {r er r2 er2 : Int} (h1 : BRecIs h c h' r er) (h2 : RRecIs T p c p' r2 er2) :
    r2 = r ∧ er2 = er ∧ Both T h' p'.R ∧ p'.room = h'.room ∧ p'.lv = p.lv ∧ p'.R.length ≤ p.R.length + 1 := by
  rcases h1 with ⟨a1, rfl, rfl, rfl⟩ | ⟨k, x, rfl, hx, hA⟩
  · rcases h2 with ⟨_, rfl, rfl, rfl⟩ | ⟨k, rfl, hk, _⟩
    · exact ⟨rfl, rfl, H, hrm, rfl, by omega⟩
    · rw [H.len] at a1
      rcases a1 with a1 | a1 <;> omega
  · have hkl := (List.getElem?_eq_some_iff.1 hx).1
    rw [H.len] at hkl
    rcases h2 with ⟨a2, _⟩ | ⟨k', e, _, hR⟩
    · rcases a2 with a2 | a2 <;> omega
    · have e : k = k' := by omega
      subst e
      have hl : x.bs.length = (fieldsB T (k : Int)).length := by rw [H.lds k x hx, ldsD_len]
      rw [hl] at hA
      exact H.add hrm hA hR (Or.inr ⟨k, rfl, x, hx, hl⟩)
theorem Both.row {T : List Cl} {h : Hm} {p : Rp} (H : Both T h p.R) (hrm : p.room = h.room) {n : Int} {h' : Hm} {p' : Rp} {r er r2 er2 : Int} (h1 : (n < 0 ∧ r = 0 ∧ er = 5 ∧ h' = h) ∨ ∃ k : Nat, n = (k : Int) ∧ AddIs h (-1) k h' r er) (h2 : RRowIs p n p' r2 er2) :
    r2 = r ∧ er2 = er ∧ Both T h' p'.R ∧ p'.room = h'.room ∧ p'.lv = p.lv ∧ p'.R.length ≤ p.R.length + 1 := by
  rcases h1 with ⟨a1, rfl, rfl, rfl⟩ | ⟨k, rfl, hA⟩
  · rcases h2 with ⟨_, rfl, rfl, rfl⟩ | ⟨k, rfl, _⟩
    · exact ⟨rfl, rfl, H, hrm, rfl, by omega⟩
    · omega
  · rcases h2 with ⟨a2, _⟩ | ⟨k', e, hR⟩
    · omega
    · have e : k = k' := by omega
      subst e
      exact H.add hrm hA hR (Or.inl rfl)
theorem put_len (R : List Rb) (ref i v : Int) : (putR R ref i v).length = R.length := by
  unfold putR
  split
  · split
    · rw [List.length_set]
    · rfl
  · rfl
theorem Both.put {T : List Cl} {h : Hm} {R : List Rb} (H : Both T h R) (ref i v : Int) : putEr R ref i v = putE h.O ref i v ∧ Both T (putD h ref i v) (putR R ref i v) := by
  have he : putEr R ref i v = putE h.O ref i v := by
    unfold putEr putE
    rw [(plE_eq H ref i).1]
  refine ⟨he, ?_⟩
  have hlen : (putD h ref i v).L = h.L := by unfold putD; split <;> rfl
  refine ⟨?_, H.ok.putD ref i v, by rw [hlen]; exact H.len, fun c x hx => H.lds c x (by rw [hlen] at hx; exact hx)⟩
  unfold putD putR
  rw [← he]
  by_cases h0 : putEr R ref i v = 0
  · rw [if_pos h0, if_pos h0]
    have hg : getE R ref i = 0 := by
      unfold putEr at h0
      by_cases hg : getE R ref i = 0
      · exact hg
      · rw [if_neg hg] at h0; exact absurd h0 hg
    obtain ⟨k, j, x, y, _, _, _, _, hth, _⟩ := get_zero hg
    rw [hth]
    exact H.tw.put hth
  · rw [if_neg h0, if_neg h0]
    exact H.tw
theorem col_both {T : List Cl} {h : Hm} {p : Rp} {Q : List Int} (H : Both T h p.R) (hrm : p.room = h.room) {h' : Hm} {p' : Rp} {n er n2 er2 : Int} (h1 : ColIs h Q h' n er) (h2 : RColIs T p Q p' n2 er2) :
    n2 = n ∧ er2 = er ∧ Both T h' p'.R ∧ p'.room = h'.room ∧ p'.lv = p.lv ∧ p'.R.length ≤ p.R.length + 1 := by
  rcases h1 with ⟨a1, rfl, rfl, rfl⟩ | ⟨a1, rfl, C, ov, hC, rfl, rfl⟩
  · rcases h2 with ⟨_, rfl, rfl, rfl⟩ | ⟨b1, _⟩
    · exact ⟨rfl, rfl, H, hrm, rfl, by omega⟩
    · exact absurd ((H.bad Q).1 a1) b1
  · rcases h2 with ⟨b1, _⟩ | ⟨b1, rfl, D, hD, rfl, rfl⟩
    · exact absurd ((H.bad Q).2 b1) a1
    · have hc := H.col hC hD ov
      exact ⟨hc.2.symm, rfl, hc.1, hrm, rfl, by show (zapR p.R D p.R.length).length ≤ _; rw [zap_len]; omega⟩
end Go.Proofs.YtbbfnampjbdnbaaDoor
