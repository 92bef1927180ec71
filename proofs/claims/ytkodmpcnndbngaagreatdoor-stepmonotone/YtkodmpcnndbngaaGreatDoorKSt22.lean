/-
  What takes a frame takes one that is of it, and what comes is of what came: plain.
-/
import Derived.Test.YtkodmpcnndbngaaGreatDoorKSt21
import Derived.Test.YtkodmpcnndbngaaGreatDoorKMeetF
namespace Go.Proofs.YtkodmpcnndbngaaGreatDoor
open Go.RowKit
set_option maxRecDepth 20000

/-- A frame is of another one, entry by entry. -/
structure LeF (T : List Cl) (a b : Fr) : Prop where
  ai : FrIs T.length a
  bi : FrIs T.length b
  lo : a.lo = b.lo
  he : a.he = b.he
  le : ∀ (j x y : Nat), j < nF a → a.sl[j]? = some x → b.sl[j]? = some y → subD T x y = true
theorem LeF.nF {T : List Cl} {a b : Fr} (h : LeF T a b) : Go.Proofs.YtkodmpcnndbngaaGreatDoor.nF a = Go.Proofs.YtkodmpcnndbngaaGreatDoor.nF b := by
  unfold Go.Proofs.YtkodmpcnndbngaaGreatDoor.nF
  rw [h.lo, h.he]
theorem FrIs.at {n : Nat} {f : Fr} (h : FrIs n f) {j : Nat} (hj : j < 24) : ∃ x, f.sl[j]? = some x := ⟨_, List.getElem?_eq_getElem (by rw [h.ok.len]; exact hj)⟩
theorem FrIs.zero {n : Nat} {f : Fr} (h : FrIs n f) {j : Nat} (hj : nF f ≤ j) (hj2 : j < 24) : f.sl[j]? = some 0 := by
  have h1 := nF_shape h.shape
  have := trimL_get0 (l := f.sl) hj (by rw [h.ok.len]; omega) hj2
  rw [h.trim] at this
  exact this
theorem leF_of {T : List Cl} {a b : Fr} (ha : FrOk a) (hb : FrOk b) (h : subF T a b = true) : LeF T a b := by
  obtain ⟨h1, h2, h3, h4⟩ := subF_parts h
  have ai := frIs_of ha h1
  have bi := frIs_of hb h2
  have hn := nF_shape ai.shape
  refine ⟨ai, bi, h3, h4, ?_⟩
  intro j x y hj hx hy
  unfold subF mergeF at h
  rw [if_neg (by rw [h1]; simp), if_neg (by rw [h2]; simp), if_neg (by rw [h3, h4]; simp)] at h
  have e := frEq_iff.1 (by simpa using h : frEq ⟨a.lo, a.he, mergeTo T a.sl b.sl (nF a)⟩ b = true)
  have e2 : mergeTo T a.sl b.sl (nF a) = b.sl := congrArg Fr.sl e
  have e3 := mergeTo_get T a.sl b.sl (nF a) j hj (by rw [ha.len]; omega)
  rw [e2, hy, List.getD_eq_getElem?_getD, hx, List.getD_eq_getElem?_getD, hy] at e3
  injection e3 with e3
  have vx := ai.valid j x hj hx
  have hnb : nF a = nF b := by unfold nF; rw [h3, h4]
  have vy := bi.valid j y (by omega) hy
  rw [merge_sub vx vy]
  exact decide_eq_true e3.symm
theorem leF_to {T : List Cl} {a b : Fr} (h : LeF T a b) : subF T a b = true := by
  have h1 := frIs_chk h.ai
  have h2 := frIs_chk h.bi
  have hn := nF_shape h.ai.shape
  have hnb := h.nF
  unfold subF mergeF
  rw [if_neg (by rw [h1]; simp), if_neg (by rw [h2]; simp), if_neg (by rw [h.lo, h.he]; simp)]
  have e : mergeTo T a.sl b.sl (nF a) = b.sl := by
    apply List.ext_getElem?
    intro j
    by_cases hj : j < nF a
    · obtain ⟨x, hx⟩ := h.ai.at (show j < 24 by omega)
      obtain ⟨y, hy⟩ := h.bi.at (show j < 24 by omega)
      rw [mergeTo_get T a.sl b.sl (nF a) j hj (by rw [h.ai.ok.len]; omega), hy, List.getD_eq_getElem?_getD, hx, List.getD_eq_getElem?_getD, hy]
      have hs := h.le j x y hj hx hy
      rw [merge_sub (h.ai.valid j x hj hx) (h.bi.valid j y (by omega) hy)] at hs
      have := of_decide_eq_true hs
      simpa using this
    · rw [mergeTo_same T a.sl b.sl (nF a) j (by omega)]
      by_cases hj2 : j < 24
      · rw [h.ai.zero (by omega) hj2, h.bi.zero (by omega) hj2]
      · rw [List.getElem?_eq_none (by rw [h.ai.ok.len]; omega), List.getElem?_eq_none (by rw [h.bi.ok.len]; omega)]
  rw [e]
  have : (⟨a.lo, a.he, b.sl⟩ : Fr) = b := by
    rw [h.lo, h.he]
  rw [this]
  simp [frEq_iff]
/-- Lists of types, entry by entry. -/
def LeL (T : List Cl) (l m : List Nat) : Prop := l.length = m.length ∧ ∀ (j x y : Nat), l[j]? = some x → m[j]? = some y → subD T x y = true
theorem sub_refl {T : List Cl} {x : Nat} (h : validD T.length x = true) : subD T x x = true := subD_iff.2 (Le.refl h)
theorem sub_trans {T : List Cl} {x y z : Nat} (h : subD T x y = true) (k : subD T y z = true) : subD T x z = true := subD_iff.2 (Le.trans (subD_iff.1 h) (subD_iff.1 k))
theorem leL_refl {T : List Cl} {l : List Nat} (h : ∀ t ∈ l, validD T.length t = true) : LeL T l l := ⟨rfl, fun j x y hx hy => by
  rw [hx] at hy
  injection hy with hy
  rw [← hy]
  exact sub_refl (h x (List.mem_of_getElem? hx))⟩
theorem leL_taken {T : List Cl} {a b : Fr} (h : LeF T a b) {k : Nat} (hk : (k : Int) ≤ a.he) : LeL T (takenD a k) (takenD b k) := by
  have hn := nF_shape h.ai.shape
  have hnb := h.nF
  have hk2 : (k : Int) ≤ b.he := by rw [← h.he]; exact hk
  refine ⟨by rw [taken_len h.ai hk, taken_len h.bi hk2], ?_⟩
  intro j x y hx hy
  have hj : j < k := by
    have := (List.getElem?_eq_some_iff.1 hx).1
    rw [taken_len h.ai hk] at this
    exact this
  rw [taken_get hj] at hx hy
  rw [← hnb] at hy
  exact h.le _ x y (by omega) hx hy
theorem leF_pop {T : List Cl} {a b : Fr} (h : LeF T a b) {k : Nat} (hk : (k : Int) ≤ a.he) : LeF T (popK a k) (popK b k) := by
  have hn := nF_shape h.ai.shape
  have hnb := h.nF
  have hk2 : (k : Int) ≤ b.he := by rw [← h.he]; exact hk
  obtain ⟨s1, s2⟩ := popK_shape h.ai hk
  refine ⟨popK_is h.ai hk, popK_is h.bi hk2, h.lo, by show a.he - (k : Int) = b.he - (k : Int); rw [h.he], ?_⟩
  intro j x y hj hx hy
  rw [s2] at hj
  have e1 : (popK a k).sl[j]? = a.sl[j]? := trimL_get hj (by rw [h.ai.ok.len]; omega)
  have e2 : (popK b k).sl[j]? = b.sl[j]? := trimL_get (by omega) (by rw [h.bi.ok.len]; omega)
  rw [e1] at hx
  rw [e2] at hy
  exact h.le j x y (by omega) hx hy
theorem leF_store {T : List Cl} (hm : madeD T = true) {a b : Fr} (h : LeF T a b) {i : Int} (hi : 0 ≤ i ∧ i < a.lo) {t u : Nat} (ht : subD T t u = true) : LeF T (storeD a i t).1 (storeD b i u).1 := by
  have hn := nF_shape h.ai.shape
  have hnb := h.nF
  have hi2 : 0 ≤ i ∧ i < b.lo := by rw [← h.lo]; exact hi
  have hle := subD_iff.1 ht
  have vt : validD T.length t = true := validD_iff.2 hle.1
  have vu : validD T.length u = true := validD_iff.2 hle.2.1
  refine ⟨store_is h.ai hi vt (valid_byte hm vt), store_is h.bi hi2 vu (valid_byte hm vu), ?_, ?_, ?_⟩
  · rw [store_in h.ai hi, store_in h.bi hi2]; exact h.lo
  · rw [store_in h.ai hi, store_in h.bi hi2]; exact h.he
  · rw [store_in h.ai hi, store_in h.bi hi2]
    intro j x y hj hx hy
    have hj2 : j < nF a := hj
    have hx2 : (a.sl.set i.toNat t)[j]? = some x := hx
    have hy2 : (b.sl.set i.toNat u)[j]? = some y := hy
    by_cases e : j = i.toNat
    · rw [e, List.getElem?_set_self (by rw [h.ai.ok.len]; omega)] at hx2
      rw [e, List.getElem?_set_self (by rw [h.bi.ok.len]; omega)] at hy2
      injection hx2 with hx2
      injection hy2 with hy2
      rw [← hx2, ← hy2]; exact ht
    · rw [List.getElem?_set_ne (by omega)] at hx2 hy2
      exact h.le j x y hj2 hx2 hy2
theorem leF_push {T : List Cl} (hm : madeD T = true) {a b : Fr} (h : LeF T a b) {t u : Nat} (ht : subD T t u = true) (hp : (pushD b u).2 = 0) : (pushD a t).2 = 0 ∧ LeF T (pushD a t).1 (pushD b u).1 := by
  have hn := nF_shape h.ai.shape
  have hnb := h.nF
  have hle := subD_iff.1 ht
  have vt : validD T.length t = true := validD_iff.2 hle.1
  have vu : validD T.length u = true := validD_iff.2 hle.2.1
  obtain ⟨b1, b2, b3, b4, b5⟩ := push_is h.bi vu (valid_byte hm vu) hp
  have hq : (pushD a t).2 = 0 := by
    unfold pushD
    rw [h.ai.shape, if_neg (by decide), if_neg (by omega)]
  obtain ⟨a1, a2, a3, a4, a5⟩ := push_is h.ai vt (valid_byte hm vt) hq
  refine ⟨hq, a1, b1, by rw [a3, b3, h.lo], by rw [a2, b2, h.he], ?_⟩
  intro j x y hj hx hy
  rw [a5] at hx
  rw [b5] at hy
  by_cases e : j = nF a
  · rw [e, List.getElem?_set_self (by rw [h.ai.ok.len]; omega)] at hx
    rw [e, hnb, List.getElem?_set_self (by rw [h.bi.ok.len]; omega)] at hy
    injection hx with hx
    injection hy with hy
    rw [← hx, ← hy]; exact ht
  · have hj3 : j < nF a + 1 := by
      have e1 : nF (pushD a t).1 = ((pushD a t).1.lo + (pushD a t).1.he).toNat := rfl
      have e2 : nF a = (a.lo + a.he).toNat := rfl
      rw [a2, a3] at e1
      omega
    rw [List.getElem?_set_ne (by omega)] at hx
    rw [List.getElem?_set_ne (by omega)] at hy
    exact h.le j x y (by omega) hx hy
theorem leF_pushes {T : List Cl} (hm : madeD T = true) : ∀ (l m : List Nat) (a b c : Fr), LeF T a b → LeL T l m → pushA b m = (c, 0) → ∃ d, pushA a l = (d, 0) ∧ LeF T d c
  | [], [], a, b, c, h, _, hp => by
    have e : b = c := congrArg Prod.fst hp
    rw [← e]
    exact ⟨a, rfl, h⟩
  | [], u :: m, _, _, _, _, hl, _ => by have := hl.1; simp at this
  | t :: l, [], _, _, _, _, hl, _ => by have := hl.1; simp at this
  | t :: l, u :: m, a, b, c, h, hl, hp => by
    unfold pushA at hp
    by_cases h0 : (pushD b u).2 = 0
    · rw [if_pos h0] at hp
      obtain ⟨q1, q2⟩ := leF_push hm h (hl.2 0 t u rfl rfl) h0
      obtain ⟨d, hd, hdc⟩ := leF_pushes hm l m _ _ c q2 ⟨by have := hl.1; simpa using this, fun j x y hx hy => hl.2 (j + 1) x y hx hy⟩ hp
      refine ⟨d, ?_, hdc⟩
      unfold pushA
      rw [if_pos q1]
      exact hd
    · rw [if_neg h0] at hp
      exact absurd (congrArg Prod.snd hp) h0
theorem sub_zero {T : List Cl} {x y : Nat} (h : subD T x y = true) (hy : y ≠ 0) : x ≠ 0 := fun e => by
  subst e
  obtain ⟨-, -, h⟩ := subD_iff.1 h
  rcases h with h | h | h | h | h
  · exact hy h.symm
  · exact hy h
  · omega
  · omega
  · omega
theorem sub_one {T : List Cl} {x y : Nat} (h : subD T x y = true) (hy : y = 1 ∨ y = 2) : x = y := by
  obtain ⟨-, -, h⟩ := subD_iff.1 h
  rcases h with h | h | h | h | h <;> omega
theorem allO_le {T : List Cl} {l m ws : List Nat} (h : LeL T l m) (ha : allO T m ws = true) : allO T l ws = true := by
  refine allO_yes ?_
  intro j a b hx hb
  have hj : j < m.length := by
    have := (List.getElem?_eq_some_iff.1 hx).1
    rw [h.1] at this
    exact this
  have hy := List.getElem?_eq_getElem hj
  refine sub_trans (h.2 j a _ hx hy) ?_
  cases hq : subD T m[j] b with
  | true => rfl
  | false => rw [allO_no hy hb hq] at ha; exact absurd ha (by decide)
theorem load_le {T : List Cl} {a b : Fr} (h : LeF T a b) (i : Int) : (loadD a i).2 = (loadD b i).2 ∧ subD T (loadD a i).1 (loadD b i).1 = true := by
  have hn := nF_shape h.ai.shape
  have key : ∀ c : Fr, shapeD c = true → loadD c i = if i < 0 ∨ c.lo ≤ i then (0, 33) else (c.sl.getD i.toNat 0, 0) := by
    intro c hc
    unfold loadD
    rw [hc]
    exact if_neg (by decide)
  rw [key a h.ai.shape, key b h.bi.shape, ← h.lo]
  by_cases hi : i < 0 ∨ a.lo ≤ i
  · rw [if_pos hi, if_pos hi]
    exact ⟨rfl, sub_refl (validD_iff.2 (Or.inl (by show 0 ≤ 5; omega)))⟩
  · rw [if_neg hi, if_neg hi]
    refine ⟨rfl, ?_⟩
    obtain ⟨x, hx⟩ := h.ai.at (show i.toNat < 24 by omega)
    obtain ⟨y, hy⟩ := h.bi.at (show i.toNat < 24 by omega)
    show subD T (a.sl.getD i.toNat 0) (b.sl.getD i.toNat 0) = true
    rw [List.getD_eq_getElem?_getD, hx, List.getD_eq_getElem?_getD, hy]
    exact h.le _ x y (by omega) hx hy
theorem get_le {T : List Cl} {l m : List Nat} (h : LeL T l m) (i : Nat) : subD T (l.getD i 0) (m.getD i 0) = true := by
  rw [List.getD_eq_getElem?_getD, List.getD_eq_getElem?_getD]
  by_cases hi : i < l.length
  · have hx := List.getElem?_eq_getElem hi
    have hy := List.getElem?_eq_getElem (show i < m.length by rw [← h.1]; exact hi)
    rw [hx, hy]
    exact h.2 i _ _ hx hy
  · rw [List.getElem?_eq_none (by omega), List.getElem?_eq_none (by rw [← h.1]; omega)]
    exact sub_refl (validD_iff.2 (Or.inl (by show 0 ≤ 5; omega)))
theorem leL_one {T : List Cl} {x y : Nat} (h : subD T x y = true) : LeL T [x] [y] := ⟨rfl, fun j a b ha hb => by
  rcases j with _ | j
  · simp at ha hb; rw [← ha, ← hb]; exact h
  · simp at ha⟩
theorem leL_two {T : List Cl} {x y u v : Nat} (h : subD T x y = true) (k : subD T u v = true) : LeL T [x, u] [y, v] := ⟨rfl, fun j a b ha hb => by
  rcases j with _ | _ | j
  · simp at ha hb; rw [← ha, ← hb]; exact h
  · simp at ha hb; rw [← ha, ← hb]; exact k
  · simp at ha⟩
/-- The spot with another frame. -/
def spW (s : Sp) (f : Fr) : Sp := { s with f := f }
theorem monotone (s : Sp) {f g h : Fr} (hc : Can s.T s.L s.fn) (hle : LeF s.T f g) (ht : applyS (spW s g) = (h, 0)) : ∃ l, applyS (spW s f) = (l, 0) ∧ LeF s.T l h := by
  have tg := took_of ht
  have hm := hc.made
  have hu : unkD (spW s g) = 0 := miss_unk tg.miss
  have hus : unkO s s.op = 0 := hu
  have h34 : s.op < 34 := unk_op hu
  have etk : tkD (spW s f) = tkD (spW s g) := rfl
  obtain ⟨n, hn⟩ : ∃ n, (tkD (spW s g)).length = n := ⟨_, rfl⟩
  have hng : (n : Int) ≤ g.he := by rw [← hn]; exact tg.le
  have hnf : (n : Int) ≤ f.he := by rw [hle.he]; exact hng
  have hL : LeL s.T (takenD f n) (takenD g n) := leL_taken hle hnf
  have hok : (allO s.T (takenD g n) (tkD (spW s g)) && alO (spW s g) (takenD g n) s.op) = true := by
    have := tg.ok
    rw [hn] at this
    exact this
  rw [Bool.and_eq_true] at hok
  have hmiss : missD (spW s f) = 0 := by
    have h1 := tg.miss
    unfold missD at h1 ⊢
    by_cases h4 : s.op = 4 ∨ s.op = 5
    · have h1 : (if s.op = 4 ∨ s.op = 5 then (loadD g s.a).2 else unkD (spW s g)) = 0 := h1
      show (if s.op = 4 ∨ s.op = 5 then (loadD f s.a).2 else unkD (spW s f)) = 0
      rw [if_pos h4] at h1 ⊢
      rw [(load_le hle s.a).1]; exact h1
    · have h1 : (if s.op = 4 ∨ s.op = 5 then (loadD g s.a).2 else unkD (spW s g)) = 0 := h1
      show (if s.op = 4 ∨ s.op = 5 then (loadD f s.a).2 else unkD (spW s f)) = 0
      rw [if_neg h4] at h1 ⊢
      exact h1
  have hal : alO (spW s f) (takenD f n) s.op = true := by
    have ha := hok.2
    by_cases e4 : s.op = 4
    · rw [e4] at ha ⊢
      have ha : decide ((loadD g s.a).1 ≠ 0) = true := ha
      show decide ((loadD f s.a).1 ≠ 0) = true
      exact decide_eq_true (sub_zero (load_le hle s.a).2 (of_decide_eq_true ha))
    by_cases e5 : s.op = 5
    · rw [e5] at ha ⊢
      have ha : decide ((takenD g n).getD 0 0 ≠ 0) = true := ha
      show decide ((takenD f n).getD 0 0 ≠ 0) = true
      exact decide_eq_true (sub_zero (get_le hL 0) (of_decide_eq_true ha))
    by_cases e16 : s.op = 16
    · rw [e16] at ha ⊢
      have ha : (decide ((takenD g n).getD 0 0 = (takenD g n).getD 1 0) && (decide ((takenD g n).getD 0 0 = 1) || decide ((takenD g n).getD 0 0 = 2))) = true := ha
      show (decide ((takenD f n).getD 0 0 = (takenD f n).getD 1 0) && (decide ((takenD f n).getD 0 0 = 1) || decide ((takenD f n).getD 0 0 = 2))) = true
      simp only [Bool.and_eq_true, Bool.or_eq_true, decide_eq_true_eq] at ha ⊢
      have q0 := sub_one (get_le hL 0) ha.2
      have q1 := sub_one (get_le hL 1) (by rw [← ha.1]; exact ha.2)
      rw [q0, q1]
      exact ha
    · unfold alO
      split
      · exact absurd ‹_› e4
      · exact absurd ‹_› e5
      · exact absurd ‹_› e16
      · rfl
  have hfr : LeF s.T (frS (spW s f)) (frS (spW s g)) := by
    unfold frS
    rw [etk, hn]
    show LeF s.T (if s.op = 5 then (storeD (popK f n) s.a ((takenD f n).getD 0 0)).1 else popK f n) (if s.op = 5 then (storeD (popK g n) s.a ((takenD g n).getD 0 0)).1 else popK g n)
    by_cases e5 : s.op = 5
    · rw [if_pos e5, if_pos e5]
      have h1 := hmiss
      unfold missD at h1
      have h1 : (if s.op = 4 ∨ s.op = 5 then (loadD f s.a).2 else unkD (spW s f)) = 0 := h1
      rw [if_pos (Or.inr e5)] at h1
      exact leF_store hm (leF_pop hle hnf) ⟨(load_good h1).2.1, (load_good h1).2.2⟩ (get_le hL 0)
    · rw [if_neg e5, if_neg e5]
      exact leF_pop hle hnf
  have hvg : ∀ t ∈ takenD g n, validD s.T.length t = true := fun t htt => by
    obtain ⟨i, hi, rfl⟩ := List.mem_iff_getElem.1 htt
    exact (taken_valid hle.bi hng (List.getElem?_eq_getElem hi)).1
  have hgv : LeL s.T (gvO (spW s f) (takenD f n) s.op) (gvO (spW s g) (takenD g n) s.op) := by
    by_cases e4 : s.op = 4
    · rw [e4]; exact leL_one (load_le hle s.a).2
    by_cases e7 : s.op = 7
    · rw [e7]; exact leL_two (get_le hL 0) (get_le hL 0)
    by_cases e8 : s.op = 8
    · rw [e8]; exact leL_two (get_le hL 1) (get_le hL 0)
    have e : gvO (spW s f) (takenD f n) s.op = gvO (spW s g) (takenD g n) s.op := by
      unfold gvO
      split <;> first | rfl | (exact absurd ‹_› e4) | (exact absurd ‹_› e7) | (exact absurd ‹_› e8)
    rw [e]
    exact leL_refl (gv_valid (spW s g) hc hle.bi hvg s.op h34 hus)
  have hpush : pushA (frS (spW s g)) (gvO (spW s g) (takenD g n) s.op) = (h, 0) := by
    have := tg.push
    rw [hn] at this
    exact this
  obtain ⟨l, hl, hlh⟩ := leF_pushes hm _ _ _ _ _ hfr hgv hpush
  refine ⟨l, took_to ⟨hmiss, ?_, ?_, ?_, ?_⟩, hlh⟩
  · rw [etk, hn]; exact hnf
  · rw [etk, hn]
    show (allO s.T (takenD f n) (tkD (spW s g)) && alO (spW s f) (takenD f n) s.op) = true
    rw [allO_le hL hok.1, hal]; rfl
  · have h1 := tg.res
    rw [etk, hn]
    rw [hn] at h1
    show ¬ (s.op = 22 ∧ 0 < f.he - (n : Int))
    have h1 : ¬ (s.op = 22 ∧ 0 < g.he - (n : Int)) := h1
    rw [hle.he]; exact h1
  · rw [etk, hn]; exact hl
end Go.Proofs.YtkodmpcnndbngaaGreatDoor
