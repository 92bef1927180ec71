/-
  Tokens of a text, written anew with gaps between: scanned as the same. Plain.
-/
import Derived.Test.YtgnipgcligmpiaaDoorLx18
namespace Go.Proofs.YtgnipgcligmpiaaDoor
open Go.RowKit
set_option maxRecDepth 20000

theorem findK_range (s : ByteArray) : ∀ (n k : Nat), k + n = 50 → (findK (spL.drop k) s k).2 = true → k ≤ (findK (spL.drop k) s k).1 ∧ (findK (spL.drop k) s k).1 < 50
  | 0, k, h, h2 => by
    have : k = 50 := by omega
    subst this
    rw [findK_end] at h2; cases h2
  | n + 1, k, h, h2 => by
    by_cases hb : ((wK k).toList == s.toList) = true
    · rw [findK_yes s k (by omega) hb]; exact ⟨Nat.le_refl _, by simp only; omega⟩
    · rw [findK_no s k (by omega) (by simpa using hb)] at h2 ⊢
      have := findK_range s n (k + 1) (by omega) h2
      omega
theorem mkS_range {s : ByteArray} {p : Nat} : ∀ k, (mkS s p k).2 ≠ 0 → 25 ≤ (mkS s p k).1 ∧ (mkS s p k).1 < 25 + k
  | 0, h => absurd rfl h
  | k + 1, h => by
    have ih := mkS_range (s := s) (p := p) k
    unfold mkS at h ⊢
    by_cases hc : (mkS s p k).2 < (wK (25 + k)).size ∧ preD (wK (25 + k)) s p = true
    · rw [if_pos hc]; simp only; omega
    · rw [if_neg hc] at h ⊢
      have := ih h
      omega
theorem wr_ok {s : ByteArray} {q : Nat} (hq : q < s.size) (h0 : onE s q = 0) : WrOk (wrT (onT s q)) (onT s q).k (onT s q).n (onT s q).t := by
  obtain ⟨e, he, hqe, hes⟩ := on_end hq h0
  have ox := on_ext (s := s) (a := q) (E := e) hq h0 he (Nat.le_refl _) (Nat.le_refl _) hes
  rw [Nat.sub_self] at ox
  have z := ext_sz (s := s) (i := q) (e := e) (by omega) hes
  have hbt0 := ext_bt (s := s) (i := q) (e := e) (j := 0) hes (by omega)
  rw [Nat.add_zero] at hbt0
  unfold onE at h0
  by_cases hl : ltC (bt s q) = true
  · have hT : onT s q = woT s q := by unfold onT; rw [if_pos hl]
    rw [if_pos hl] at h0
    rw [hT] at ox he ⊢
    unfold woE at h0
    unfold woT at ox he ⊢
    by_cases h1 : (kdD (s.extract q (enD wdC s q))).2 = true
    · rw [if_pos h1]
      have := findK_range (s.extract q (enD wdC s q)) 47 3 rfl h1
      have e1 : wrT ⟨((kdD (s.extract q (enD wdC s q))).1 : Int), (q : Int), (enD wdC s q : Nat), 0, ⟨#[]⟩⟩ = wdK ((kdD (s.extract q (enD wdC s q))).1 : Int) := by
        unfold wrT kdD
        simp only
        rw [if_neg (by omega), if_neg (by omega)]
      rw [e1]
      exact wr_word this.1 this.2
    · rw [if_neg h1] at h0 ox he ⊢
      by_cases h2 : nameB (s.extract q (enD wdC s q)) = true
      · rw [if_pos h2] at ox he ⊢
        simp only at he
        have hee : enD wdC s q = e := by omega
        rw [hee] at ox ⊢
        have e1 : wrT ⟨1, (q : Int), (e : Nat), 0, s.extract q e⟩ = s.extract q e := by unfold wrT; rw [if_pos rfl]
        rw [e1]
        obtain ⟨l1, l2⟩ := letter_ok hl
        refine ⟨by omega, ox.1, ?_, by rw [hbt0]; exact l1, fun g => l2 (by rw [← hbt0]; exact g.1)⟩
        rw [ox.2]
        unfold shT
        simp only
        congr 1 <;> omega
      · rw [if_neg h2] at h0; cases h0
  · rw [if_neg hl] at h0
    by_cases hd : dgC (bt s q) = true
    · have hT : onT s q = nmT s q := by unfold onT; rw [if_neg hl, if_pos hd]
      rw [if_pos hd] at h0
      rw [hT]
      unfold nmE at h0
      unfold nmT
      by_cases h1 : nuB (s.extract q (enD dgC s q)) = true ∧ enD ltC s (enD dgC s q) = enD dgC s q
      · rw [if_pos h1]
        have hle : nuV (s.extract q (enD dgC s q)) ≤ 2147483648 := by unfold nuV; split <;> omega
        generalize nuV (s.extract q (enD dgC s q)) = n at hle
        have e1 : wrT ⟨2, (q : Int), (enD dgC s q : Nat), (n : Int), ⟨#[]⟩⟩ = numT n := by unfold wrT; simp
        rw [e1]
        exact wr_num hle
      · rw [if_neg h1] at h0; cases h0
    · have hT : onT s q = mkT s q := by unfold onT; rw [if_neg hl, if_neg hd]
      rw [if_neg hd] at h0
      rw [hT]
      unfold mkE at h0
      unfold mkT
      by_cases h1 : (mkS s q 25).2 = 0
      · rw [if_pos h1] at h0; cases h0
      · have hr := mkS_range 25 h1
        generalize mkS s q 25 = mm at h0 h1 hr
        rw [if_neg h1]
        have e1 : wrT ⟨(mm.1 : Int), (q : Int), (q + mm.2 : Nat), 0, ⟨#[]⟩⟩ = wdK (mm.1 : Int) := by
          unfold wrT
          simp only
          rw [if_neg (by omega), if_neg (by omega)]
        rw [e1]
        exact wr_word (by omega) (by omega)
/-! ### Gaps -/
def gapL : List ByteArray := [⟨#[32]⟩, ⟨#[10]⟩, ⟨#[32, 47, 47, 32, 120, 32, 121, 10]⟩, ⟨#[9, 32, 13]⟩]
theorem at_piece {s g : ByteArray} {p : Nat} (hx : s.extract p (p + g.size) = g) (hs : p + g.size ≤ s.size) {j : Nat} (hj : j < g.size) : bt s (p + j) = bt g j := by
  have := ext_bt (s := s) (i := p) (e := p + g.size) (j := j) hs (by omega)
  rw [hx] at this; exact this.symm
theorem gap_bl {s g : ByteArray} {p : Nat} (hg : g ∈ gapL) (hx : s.extract p (p + g.size) = g) (hs : p + g.size ≤ s.size) (hb : blD s (p + g.size) = p + g.size) : blD s p = p + g.size := by
  have ha := fun j hj => at_piece hx hs (j := j) hj
  have step : ∀ j, j < g.size → blC (bt g j : Int) = true → blD s (p + j) = blD s (p + j + 1) := fun j hj hc => blD_blank (by omega) (by rw [ha j hj]; exact hc)
  unfold gapL at hg
  simp only [List.mem_cons, List.mem_nil_iff, or_false] at hg
  rcases hg with rfl | rfl | rfl | rfl
  · rw [show (⟨#[32]⟩ : ByteArray).size = 1 from rfl] at *
    have := step 0 (by decide) (by decide)
    rw [Nat.add_zero] at this
    rw [this, hb]
  · rw [show (⟨#[10]⟩ : ByteArray).size = 1 from rfl] at *
    have := step 0 (by decide) (by decide)
    rw [Nat.add_zero] at this
    rw [this, hb]
  · rw [show (⟨#[32, 47, 47, 32, 120, 32, 121, 10]⟩ : ByteArray).size = 8 from rfl] at *
    have s0 := step 0 (by decide) (by decide)
    have s7 := step 7 (by decide) (by decide)
    rw [Nat.add_zero] at s0
    have hr : bt s (p + 1) = 47 ∧ p + 1 + 1 < s.size ∧ bt s (p + 1 + 1) = 47 := ⟨(ha 1 (by decide)).trans rfl, by omega, (ha 2 (by decide)).trans rfl⟩
    have he : enD rmC s (p + 1) = p + 7 := enD_is ⟨by omega, by omega, fun j h1 h2 => by
      have h3 := ha (j - p) (by omega)
      rw [show p + (j - p) = j by omega] at h3
      have h4 : ∀ i, i < 7 → rmC (bt ⟨#[32, 47, 47, 32, 120, 32, 121, 10]⟩ i : Int) = true := by decide
      rw [h3]
      exact h4 _ (by omega), fun _ => by rw [ha 7 (by decide)]; decide⟩
    rw [s0, blD_rem hr, he, s7, hb]
  · rw [show (⟨#[9, 32, 13]⟩ : ByteArray).size = 3 from rfl] at *
    have s0 := step 0 (by decide) (by decide)
    have s1 := step 1 (by decide) (by decide)
    have s2 := step 2 (by decide) (by decide)
    rw [Nat.add_zero] at s0
    rw [s0, s1, s2, hb]
theorem gap_first : ∀ g ∈ gapL, 0 < g.size ∧ blC (bt g 0 : Int) = true := by
  intro g hg
  unfold gapL at hg
  simp only [List.mem_cons, List.mem_nil_iff, or_false] at hg
  rcases hg with rfl | rfl | rfl | rfl <;> decide
/-- Gaps and texts, one behind the other, from a place to another. -/
def Fit (s : ByteArray) : Nat → List (ByteArray × ByteArray) → Nat → Prop
  | p, [], e => p = e
  | p, (g, T) :: P, e => s.extract p (p + g.size) = g ∧ s.extract (p + g.size) (p + g.size + T.size) = T ∧ Fit s (p + g.size + T.size) P e
theorem Fit.le {s : ByteArray} : ∀ {P : List (ByteArray × ByteArray)} {p e : Nat}, Fit s p P e → p ≤ e
  | [], p, e, h => Nat.le_of_eq h
  | (g, T) :: P, p, e, h => by have := Fit.le h.2.2; omega
theorem app_old {a b : ByteArray} {i e : Nat} (h : i ≤ e) (he : e ≤ a.size) : (a ++ b).extract i e = a.extract i e := by
  have z : (a ++ b).size = a.size + b.size := ByteArray.size_append
  refine ba_ext (by rw [ext_sz h (by omega), ext_sz h he]) fun j hj => ?_
  rw [ext_sz h (by omega)] at hj
  rw [ext_bt (by omega) (by omega), ext_bt he (by omega), ← bt_at (by omega), ← bt_at (by omega)]
  congr 1
  exact ByteArray.getElem_append_left (by omega)
theorem app_new {a b : ByteArray} : (a ++ b).extract a.size (a.size + b.size) = b := by
  have z : (a ++ b).size = a.size + b.size := ByteArray.size_append
  have z2 := ext_sz (s := a ++ b) (i := a.size) (e := a.size + b.size) (by omega) (by omega)
  refine ba_ext (by omega) fun j hj => ?_
  rw [ext_bt (by omega) (by omega), ← bt_at (by omega), ← bt_at (by omega)]
  congr 1
  rw [ByteArray.getElem_append_right (by omega)]
  congr 1
  omega
theorem Fit.grow {s r : ByteArray} : ∀ {P : List (ByteArray × ByteArray)} {p e : Nat}, Fit s p P e → e ≤ s.size → Fit (s ++ r) p P e
  | [], p, e, h, _ => h
  | (g, T) :: P, p, e, h, he => by
    have hl := Fit.le h.2.2
    exact ⟨(app_old (by omega) (by omega)).trans h.1, (app_old (by omega) (by omega)).trans h.2.1, Fit.grow h.2.2 he⟩
theorem Fit.snoc {s : ByteArray} : ∀ {P : List (ByteArray × ByteArray)} {p e : Nat} {g T : ByteArray}, Fit s p P e → s.extract e (e + g.size) = g → s.extract (e + g.size) (e + g.size + T.size) = T → Fit s p (P ++ [(g, T)]) (e + g.size + T.size)
  | [], p, e, g, T, h, h1, h2 => by
    have h' : p = e := h
    subst h'
    exact ⟨h1, h2, rfl⟩
  | (g', T') :: P, p, e, g, T, h, h1, h2 => ⟨h.1, h.2.1, Fit.snoc h.2.2 h1 h2⟩
theorem Fit.add {s g T : ByteArray} {P : List (ByteArray × ByteArray)} (h : Fit s 0 P s.size) : Fit (s ++ (g ++ T)) 0 (P ++ [(g, T)]) (s ++ (g ++ T)).size := by
  have z : (s ++ (g ++ T)).size = s.size + (g ++ T).size := ByteArray.size_append
  have z2 : (g ++ T).size = g.size + T.size := ByteArray.size_append
  have hn := app_new (a := s) (b := g ++ T)
  have e1 : (s ++ (g ++ T)).extract s.size (s.size + g.size) = g := by
    have := ext_ext (s := s ++ (g ++ T)) (p := s.size) (E := s.size + (g ++ T).size) (q := s.size) (e := s.size + g.size) (Nat.le_refl _) (by omega) (by omega) (by omega)
    rw [hn, Nat.sub_self, show s.size + g.size - s.size = g.size by omega, app_old (Nat.zero_le _) (Nat.le_refl _)] at this
    rw [← this]
    have z3 := ext_sz (s := g) (i := 0) (e := g.size) (Nat.zero_le _) (Nat.le_refl _)
    exact ba_ext (by omega) fun j hj => by rw [ext_bt (Nat.le_refl _) (by omega), Nat.zero_add]
  have e2 : (s ++ (g ++ T)).extract (s.size + g.size) (s.size + g.size + T.size) = T := by
    have := ext_ext (s := s ++ (g ++ T)) (p := s.size) (E := s.size + (g ++ T).size) (q := s.size + g.size) (e := s.size + g.size + T.size) (by omega) (by omega) (by omega) (by omega)
    rw [hn, show s.size + g.size - s.size = g.size by omega, show s.size + g.size + T.size - s.size = g.size + T.size by omega, app_new] at this
    exact this.symm
  have := Fit.snoc (Fit.grow (r := g ++ T) h (Nat.le_refl _)) e1 e2
  rw [z, z2, ← Nat.add_assoc]
  exact this
/-- Two tokens that differ in their places alone. -/
def SameK (x y : Tk) : Prop := x.k = y.k ∧ x.n = y.n ∧ x.t = y.t
inductive AllW : List (ByteArray × ByteArray) → List Tk → Prop
  | nil : AllW [] []
  | cons {g T : ByteArray} {x : Tk} {P : List (ByteArray × ByteArray)} {l : List Tk} : g ∈ gapL → WrOk T x.k x.n x.t → AllW P l → AllW ((g, T) :: P) (x :: l)
theorem AllW.snoc {P : List (ByteArray × ByteArray)} {l : List Tk} {g T : ByteArray} {x : Tk} (h : AllW P l) (hg : g ∈ gapL) (hT : WrOk T x.k x.n x.t) : AllW (P ++ [(g, T)]) (l ++ [x]) := by
  induction h with
  | nil => exact .cons hg hT .nil
  | cons a b _ ih => exact .cons a b ih
theorem fit_chn {s : ByteArray} : ∀ {P : List (ByteArray × ByteArray)} {l : List Tk} {p : Nat}, AllW P l → Fit s p P s.size → ∃ m : List Tk, Chn s p m ∧ m.length = l.length ∧ ∀ (i : Nat) (x : Tk), l[i]? = some x → ∃ y : Tk, m[i]? = some y ∧ SameK y x
  | [], _, p, .nil, h => ⟨[], by have h' : p = s.size := h; show blD s p = s.size; rw [blD_end (by omega)]; exact h', rfl, fun i x hx => by simp at hx⟩
  | (g, T) :: P, _, p, .cons (x := x) (l := l) hg hT hr, h => by
    obtain ⟨h1, h2, h3⟩ := h
    have hle := Fit.le h3
    obtain ⟨m, hm, hml, hms⟩ := fit_chn hr h3
    have hbh : Bhd s (p + g.size + T.size) := by
      cases hr with
      | nil => exact .inl h3
      | cons hg' _ _ =>
        rename_i g' T' _ _ _
        obtain ⟨f1, f2⟩ := gap_first _ hg'
        obtain ⟨k1, k2, k3⟩ := h3
        have := Fit.le k3
        refine .inr ⟨by omega, ?_⟩
        have := at_piece k1 (by omega) (j := 0) f1
        rw [Nat.add_zero] at this
        rw [this]; exact f2
    obtain ⟨o1, o2⟩ := on_behind h2 (by omega) hT.pos hbh hT.e0 (by rw [hT.t0])
    rw [hT.t0] at o2
    simp only at o2
    have hb0 := at_piece h2 (by omega) (j := 0) hT.pos
    rw [Nat.add_zero] at hb0
    have hst : blD s (p + g.size) = p + g.size := by
      refine blD_stop (by have := hT.pos; omega) (by rw [hb0]; exact hT.nb) fun ⟨r1, r2, r3⟩ => ?_
      rw [hb0] at r1
      rcases Nat.lt_or_ge 1 T.size with g1 | g1
      · have := at_piece h2 (by omega) (j := 1) g1
        rw [this] at r3
        exact hT.nr ⟨r1, g1, r3⟩
      · have hT1 : T.size = 1 := by have := hT.pos; omega
        rw [hT1] at hbh
        rcases hbh with e | ⟨_, e⟩
        · omega
        · have := (blank_not e).2.2.2
          omega
    have hgb := gap_bl hg h1 (by omega) hst
    refine ⟨onT s (p + g.size) :: m, ⟨p + g.size, p + g.size + T.size, hgb, by have := hT.pos; omega, o1, rfl, by rw [o2], by rw [o2], by have := hT.pos; omega, hle, hm⟩, by simp [hml], fun i y hy => ?_⟩
    cases i with
    | zero =>
      simp at hy
      subst hy
      exact ⟨_, rfl, by rw [o2]; exact ⟨rfl, rfl, rfl⟩⟩
    | succ i =>
      obtain ⟨y', h5, h6⟩ := hms i y (by simpa using hy)
      exact ⟨y', by simpa using h5, h6⟩
end Go.Proofs.YtgnipgcligmpiaaDoor
