/-
  Texts of contracts and plain lemmas, one behind another; each says at its head what it holds.
-/
import Derived.Test.YthdgbdjagjagpaaGreatDoorJRA
import Derived.Test.YthdgbdjagjagpaaGreatDoorJRB
import Derived.Test.YthdgbdjagjagpaaGreatDoorJPR
/-
  Reading back: lines that spell a code's instructions, with labels of some prefix and lines without words between, are read as that code. No Go in it.
-/
namespace Go.Proofs.YthdgbdjagjagpaaGreatDoor
open Go.RowKit
set_option maxRecDepth 20000
set_option linter.unusedVariables false
set_option linter.unusedSimpArgs false

theorem goS_app : ∀ (X Y : List (List ByteArray)) (i : Nat) (st st' : Rs), goS X i st = (0, 0, st') → goS (X ++ Y) i st = goS Y (i + X.length) st'
  | [], Y, i, st, st', h => by
    rw [goS] at h
    obtain ⟨_, _, rfl⟩ : (0 : Nat) = 0 ∧ (0 : Int) = 0 ∧ st = st' := by simpa using h
    rfl
  | ws :: t, Y, i, st, st', h => by
    rw [goS] at h
    by_cases e : (readS st i ws).1 = 0
    · rw [if_neg (fun hh => hh e)] at h
      rw [List.cons_append, goS, if_neg (fun hh => hh e), goS_app t Y (i + 1) _ st' h, List.length_cons]
      congr 1
      omega
    · rw [if_pos e] at h
      injection h with h1 h2
      injection h2 with h2 h3
      exact absurd h2 e
theorem goS_one {st : Rs} {i : Nat} {ws : List ByteArray} (h : (readS st i ws).1 = 0) : goS [ws] i st = (0, 0, (readS st i ws).2) := by
  rw [goS, if_neg (fun hh => hh h), goS]
theorem goS_none (st : Rs) : ∀ (n i : Nat), goS (List.replicate n []) i st = (0, 0, st)
  | 0, i => rfl
  | n + 1, i => by
    rw [List.replicate_succ, goS]
    show (if (0 : Int) ≠ 0 then _ else goS (List.replicate n []) (i + 1) st) = _
    rw [if_neg (fun h => h rfl), goS_none st n]
def bwW (W : List (List (List UInt8))) : List (List ByteArray) := W.map fun l => l.map bw
theorem bwW_app (A B : List (List (List UInt8))) : bwW (A ++ B) = bwW A ++ bwW B := by unfold bwW; rw [List.map_append]
theorem lab_read {pf : List UInt8} (hpf : PfOk pf) {st : Rs} {i : Nat} {p : Int} (h0 : 0 ≤ p) (h1 : p ≤ 65535) (hn : findLb st.labs (bw (pf ++ Lib.itoa p)) = none) :
    readS st i [bw (pf ++ Lib.itoa p ++ [58])] = (0, { st with labs := st.labs ++ [(bw (pf ++ Lib.itoa p), st.size)] }) := by
  obtain ⟨c1, c2⟩ := colB_hit (pf ++ Lib.itoa p)
  rw [readS_cons, c1, c2, name_pf hpf h0 h1, if_pos (by simp)]
  unfold nameS
  rw [hn, if_neg (by simp)]
theorem StB.nil (pf : List UInt8) (ts : List Int) : StB pf ts [] ⟨[], [], 0, []⟩ := ⟨rfl, rfl, rfl, rfl⟩
/-- What is asked of an instruction behind others. -/
structure ItOk (A : List Ix) (x : Ix) : Prop where
  e : eE x.op x.a x.b = 0
  a : -9223372036854775808 ≤ x.a ∧ x.a ≤ 9223372036854775807
  b : -9223372036854775808 ≤ x.b ∧ x.b ≤ 9223372036854775807
  p : x.p = ((encs A).length : Int)
  l : (encs A).length + (eL x.op x.a x.b).length ≤ 4096
  up : ∀ y ∈ A, 0 ≤ y.p ∧ y.p ≠ x.p
theorem it_read {pf : List UInt8} {ts : List Int} (hpf : PfOk pf) {A : List Ix} {x : Ix} {st : Rs} {i n : Nat} (hx : ItOk A x) (h : StB pf ts A st) :
    ∃ st', goS (bwW (itW pf ts x n)) i st = (0, 0, st') ∧ StB pf ts (A ++ [x]) st' := by
  have hl := hx.l
  have hp := hx.p
  have key : ∀ (i : Nat) (st : Rs), st.list = A.map stripX → st.size = (encs A).length → st.jumps.map (fun j => (j.place, j.name)) = jmps pf A 0 → st.labs = labP pf ts (A ++ [x]) →
      ∃ st', goS (bwW (List.replicate n [] ++ [insP pf x])) i st = (0, 0, st') ∧ StB pf ts (A ++ [x]) st' := by
    intro i st h1 h2 h3 h4
    obtain ⟨r1, r2, r3, r4, r5⟩ := read_ins (ts := ts) (i := i + (bwW (List.replicate n [])).length) hpf hx.e hx.a hx.b h1 h2 h3 hl
    refine ⟨_, ?_, ⟨r2.trans h4, r3, r4, r5⟩⟩
    rw [bwW_app]
    have e1 : bwW (List.replicate n []) = List.replicate n [] := by unfold bwW; rw [List.map_replicate]; rfl
    rw [goS_app _ _ i st st (by rw [e1]; exact goS_none st n i)]
    exact goS_one r1
  unfold itW
  rw [List.append_assoc]
  by_cases hm : x.p ∈ ts
  · rw [if_pos hm, bwW_app]
    have h0 : 0 ≤ x.p := by omega
    have h1 : x.p ≤ 65535 := by omega
    have hf : findLb st.labs (bw (pf ++ Lib.itoa x.p)) = none := by rw [h.labs]; exact find_none h0 hx.up
    have hr := lab_read (i := i) hpf h0 h1 hf
    have hg := goS_one (i := i) (st := st) (ws := [bw (pf ++ Lib.itoa x.p ++ [58])]) (by rw [hr])
    rw [hr] at hg
    obtain ⟨st', k1, k2⟩ := key (i + 1) { st with labs := st.labs ++ [(bw (pf ++ Lib.itoa x.p), st.size)] } h.list h.size h.jumps (by
      show st.labs ++ _ = _
      rw [labP_snoc, if_pos hm, h.labs, h.size, hp]
      rfl)
    refine ⟨st', ?_, k2⟩
    exact (goS_app [[bw (pf ++ Lib.itoa x.p ++ [58])]] _ i st _ hg).trans k1
  · rw [if_neg hm, List.nil_append]
    exact key i st h.list h.size h.jumps (by rw [labP_snoc, if_neg hm, List.append_nil]; exact h.labs)
theorem all_read {pf : List UInt8} {ts : List Int} (hpf : PfOk pf) (ex : Nat → Nat) : ∀ (r A : List Ix) (st : Rs) (i k : Nat), (∀ B x C, r = B ++ x :: C → ItOk (A ++ B) x) → StB pf ts A st →
    ∃ st', goS (bwW (allW pf ts ex r k)) i st = (0, 0, st') ∧ StB pf ts (A ++ r) st'
  | [], A, st, i, k, _, h => ⟨st, rfl, by rw [List.append_nil]; exact h⟩
  | x :: r, A, st, i, k, hr, h => by
    obtain ⟨s1, h1, h2⟩ := it_read (i := i) (n := ex k) hpf (by have := hr [] x r rfl; rwa [List.append_nil] at this) h
    obtain ⟨s2, h3, h4⟩ := all_read hpf ex r (A ++ [x]) s1 (i + (bwW (itW pf ts x (ex k))).length) (k + 1) (fun B y C e => by
      have := hr (x :: B) y C (by rw [e]; rfl)
      rwa [List.append_assoc]) h2
    refine ⟨s2, ?_, by rw [List.append_assoc] at h4; exact h4⟩
    rw [allW, bwW_app, goS_app _ _ i st s1 h1]
    exact h3
theorem leadS_ok {labs : List (ByteArray × Nat)} {size n : Nat} {j : Jm} {J : List Jm} {l : List Ix} (h : findLb labs j.name = some n) (hn : n ≠ size) : leadS labs size (j :: J) l = leadS labs size J (setA l j.place (n : Int)) := by
  rw [leadS, h]
  show (if _ then _ else _) = _
  rw [if_neg hn]
theorem setA_mid : ∀ (A : List Ix) (x : Ix) (r : List Ix) (a : Int), setA (A ++ x :: r) A.length a = A ++ { x with a := a } :: r
  | [], x, r, a => rfl
  | y :: A, x, r, a => by rw [List.cons_append, List.length_cons, setA_succ, setA_mid A]; rfl
theorem lead_all {pf : List UInt8} {labs : List (ByteArray × Nat)} {size : Nat} : ∀ (r A : List Ix) (J : List Jm), J.map (fun j => (j.place, j.name)) = jmps pf r A.length →
    (∀ x ∈ r, eE x.op x.a x.b = 0) → (∀ x ∈ r, jmpN x.op = true → findLb labs (bw (pf ++ Lib.itoa x.a)) = some x.a.toNat ∧ x.a.toNat ≠ size) →
    leadS labs size J (A.map fullX ++ r.map stripX) = (0, 0, (A ++ r).map fullX)
  | [], A, J, hJ, _, _ => by
    have : J = [] := by simpa [jmps] using hJ
    subst this
    rw [leadS, List.map_nil, List.append_nil, List.append_nil]
  | x :: r, A, J, hJ, he, hf => by
    have ih := lead_all (pf := pf) (labs := labs) (size := size) r (A ++ [x])
    rw [List.length_append] at ih
    have e2 : A.map fullX ++ fullX x :: r.map stripX = (A ++ [x]).map fullX ++ r.map stripX := by simp
    cases hj : jmpN x.op with
    | true =>
      rw [jmps, if_pos hj] at hJ
      cases J with
      | nil => simp at hJ
      | cons j J =>
        simp only [List.map_cons, List.cons_append, List.nil_append, List.cons.injEq, Prod.mk.injEq] at hJ
        obtain ⟨⟨hp, hn⟩, hJ⟩ := hJ
        obtain ⟨f1, f2⟩ := hf x List.mem_cons_self hj
        have hz := (eE_zero (he x List.mem_cons_self)).2.2 hj
        rw [leadS_ok (n := x.a.toNat) (by rw [hn]; exact f1) f2, hp, List.map_cons]
        have hlen : A.length = (A.map fullX).length := by simp
        rw [hlen, setA_mid]
        have e1 : ({ stripX x with a := ((x.a.toNat : Nat) : Int) } : Ix) = fullX x := by
          have e3 : stripX x = ⟨0, x.op, 0, 0⟩ := by unfold stripX; rw [hj]; rfl
          have e4 : ((x.a.toNat : Nat) : Int) = x.a := by have := hz.2.1; omega
          rw [e3, e4]
          unfold fullX
          rw [hz.1]
        rw [e1, e2, ih J hJ (fun y hy => he y (List.mem_cons_of_mem _ hy)) (fun y hy => hf y (List.mem_cons_of_mem _ hy)), List.append_assoc]
        rfl
    | false =>
      rw [jmps, hj, if_neg (by decide), List.nil_append] at hJ
      have e1 : stripX x = fullX x := by unfold stripX fullX; rw [hj]; rfl
      rw [List.map_cons, e1, e2, ih J hJ (fun y hy => he y (List.mem_cons_of_mem _ hy)) (fun y hy => hf y (List.mem_cons_of_mem _ hy)), List.append_assoc]
      rfl
theorem encs_full (l : List Ix) : encs (l.map fullX) = encs l := by
  unfold encs
  rw [List.flatMap_map]
  rfl
/-- What the instructions of a code must be for their text to be read back. -/
structure CdOk (L : List UInt8) (ts : List Int) (l : List Ix) : Prop where
  sc : ScB L 0 l
  len : L.length ≤ 4096
  a : ∀ x ∈ l, -9223372036854775808 ≤ x.a ∧ x.a ≤ 9223372036854775807
  b : ∀ x ∈ l, -9223372036854775808 ≤ x.b ∧ x.b ≤ 9223372036854775807
  tg : ∀ x ∈ l, jmpN x.op = true → x.a ∈ ts ∧ ∃ y ∈ l, y.p = x.a
theorem ba_toList_encs {L : List UInt8} {ts : List Int} {l : List Ix} (h : CdOk L ts l) : encs l = L := by rw [h.sc.by_, List.drop_zero]
theorem cd_it {L : List UInt8} {ts : List Int} {l : List Ix} (h : CdOk L ts l) (B : List Ix) (x : Ix) (C : List Ix) (e : l = B ++ x :: C) : ItOk B x := by
  have hx : x ∈ l := by rw [e]; simp
  have hxi : l[B.length]? = some x := by rw [e]; simp
  have hat : ∀ (j : Nat), j < B.length → ∀ y, l[j]? = some y → y.p = ((adr l j : Nat) : Int) := fun j _ y hy => by have := h.sc.at_ j y hy; rw [this]; congr 1; omega
  have hpx := h.sc.at_ B.length x hxi
  have hadr : adr l B.length = (encs B).length := by unfold adr; rw [e, List.take_left']; rfl
  have hL : (encs l).length ≤ 4096 := by rw [ba_toList_encs h]; exact h.len
  refine ⟨h.sc.ok x hx, h.a x hx, h.b x hx, ?_, ?_, ?_⟩
  · rw [hpx, hadr]; congr 1; omega
  · rw [e] at hL
    have : encs (B ++ x :: C) = encs B ++ (eL x.op x.a x.b ++ encs C) := by unfold encs; simp
    rw [this, List.length_append, List.length_append] at hL
    omega
  · intro y hy
    obtain ⟨j, hj, rfl⟩ := List.mem_iff_getElem.1 hy
    have hyj : l[j]? = some B[j] := by rw [e, List.getElem?_append_left hj, List.getElem?_eq_getElem hj]
    have h1 := h.sc.at_ j _ hyj
    have hok := h.sc.ok _ (List.mem_of_getElem? hyj)
    have h2 : adr l (j + 1) ≤ (encs B).length := by
      unfold adr
      rw [e, List.take_append_of_le_length (by omega)]
      have : encs B = encs (B.take (j + 1)) ++ encs (B.drop (j + 1)) := by
        unfold encs
        rw [← List.flatMap_append, List.take_append_drop]
      rw [this, List.length_append]; omega
    have h3 : adr l j < adr l (j + 1) := by
      unfold adr
      rw [take_snoc hyj, encs_snoc, List.length_append]
      have := eL_pos hok
      omega
    refine ⟨by omega, ?_⟩
    rw [h1, hpx, hadr]
    omega
theorem back_all {pf : List UInt8} {ts : List Int} {L : List UInt8} {l : List Ix} (hpf : PfOk pf) (ex : Nat → Nat) (h : CdOk L ts l) :
    finG (goS (bwW (allW pf ts ex l 0 ++ [[]])) 1 ⟨[], [], 0, []⟩) = (L, 0, 0) := by
  obtain ⟨st, h1, h2⟩ := all_read (ts := ts) hpf ex l [] _ 1 0 (fun B x C e => by rw [List.nil_append]; exact cd_it h B x C e) (StB.nil pf ts)
  rw [List.nil_append] at h2
  have hz : (encs l).length ≤ 4096 := by rw [ba_toList_encs h]; exact h.len
  have h3 : goS (bwW (allW pf ts ex l 0 ++ [[]])) 1 ⟨[], [], 0, []⟩ = (0, 0, st) := by
    rw [bwW_app, goS_app _ _ _ _ st h1]
    exact goS_one rfl
  have hpos : ∀ x ∈ l, 0 ≤ x.p := fun x hx => by
    obtain ⟨j, hj, rfl⟩ := List.mem_iff_getElem.1 hx
    have := h.sc.at_ j _ (List.getElem?_eq_getElem hj)
    omega
  have hl := lead_all (pf := pf) (labs := st.labs) (size := st.size) l [] st.jumps h2.jumps h.sc.ok (fun x hx hj => by
    obtain ⟨t1, t2⟩ := h.tg x hx hj
    have ha := (eE_zero (h.sc.ok x hx)).2.2 hj
    rw [h2.labs, h2.size]
    refine ⟨find_some ha.2.1 t1 hpos t2, ?_⟩
    obtain ⟨y, hy, hyp⟩ := t2
    obtain ⟨j, hj, rfl⟩ := List.mem_iff_getElem.1 hy
    have h5 := h.sc.at_ j _ (List.getElem?_eq_getElem hj)
    have h6 : adr l j < (encs l).length := by
      have h7 : adr l j < adr l (j + 1) := by
        unfold adr
        rw [take_snoc (List.getElem?_eq_getElem hj), encs_snoc, List.length_append]
        have := eL_pos (h.sc.ok _ hy)
        omega
      have h8 : adr l (j + 1) ≤ (encs l).length := by
        unfold adr
        have : encs l = encs (l.take (j + 1)) ++ encs (l.drop (j + 1)) := by
          unfold encs
          rw [← List.flatMap_append, List.take_append_drop]
        rw [this, List.length_append]; omega
      omega
    omega)
  rw [List.map_nil, List.nil_append, List.nil_append, ← h2.list] at hl
  unfold finG
  rw [h3]
  show (if (0 : Int) ≠ 0 then _ else finL (leadS st.labs st.size st.jumps st.list)) = _
  rw [if_neg (fun h => h rfl), hl]
  unfold finL
  rw [if_neg (fun h => h rfl), alD_all _ 0 [] (fun x hx => by
    obtain ⟨y, hy, rfl⟩ := List.mem_map.1 hx
    exact h.sc.ok y hy) (by rw [encs_full]; simp; exact hz), encs_full, List.nil_append, ba_toList_encs h]
/-- A text whose lines have these words is read as the code. -/
theorem parS_back {pf : List UInt8} {ts : List Int} {L : List UInt8} {l : List Ix} {s : ByteArray} (hpf : PfOk pf) (ex : Nat → Nat) (h : CdOk L ts l) (hs : (splL s.data.toList).map wrdL = allW pf ts ex l 0 ++ [[]]) (hz : s.size ≤ 65536) : parS s = (L, 0, 0) := by
  unfold parS
  rw [if_neg (by omega), hs]
  exact back_all hpf ex h
end Go.Proofs.YthdgbdjagjagpaaGreatDoor

/-
  The texts' lines and their words: the law's renamed text, and what Print tells; both are read back. No Go in it.
-/
namespace Go.Proofs.YthdgbdjagjagpaaGreatDoor
open Go.RowKit
set_option maxRecDepth 20000
set_option linter.unusedVariables false
set_option linter.unusedSimpArgs false

def wokB (w : List UInt8) : Bool := !w.isEmpty && w.all fun c => decide (33 ≤ c.toNat) && decide (c ≠ 59)
theorem wok_of {w : List UInt8} (h : wokB w = true) : wok w := by
  unfold wokB at h
  rw [Bool.and_eq_true, List.all_eq_true] at h
  refine ⟨fun e => by rw [e] at h; simp at h, fun c hc => ?_⟩
  have := h.2 c hc
  rw [Bool.and_eq_true] at this
  exact wch_of (of_decide_eq_true this.1) (of_decide_eq_true this.2)
theorem wokB_nm : ∀ k, k < 34 → wokB (wC k).data.toList = true := by decide +kernel
theorem wok_nm {k : Nat} (h : k < 34) : wok (nmL k) := by
  unfold nmL
  rw [nmD_wC h]
  exact wok_of (wokB_nm k h)
theorem wok_pf {pf : List UInt8} (h : PfOk pf) (p : Int) : wok (pf ++ Lib.itoa p) := by
  refine wok_app ⟨fun e => ?_, fun c hc => ?_⟩ (wok_itoa p).2
  · have := h.len; rw [e] at this; simp at this
  · have := h.rest c hc; exact wch_of this.2.1 this.2.2.1
theorem wok_col {w : List UInt8} (h : wok w) : wok (w ++ [58]) := wok_app h (fun c hc => by
  rw [List.mem_singleton] at hc
  subst hc
  exact wch_of (by decide) (by decide))
theorem blk_9 : ∀ c ∈ [(9 : UInt8)], blk c.toNat = true := by decide
theorem blk_32 : ∀ c ∈ [(32 : UInt8)], blk c.toNat = true := by decide
theorem blk_3232 : ∀ c ∈ [(32 : UInt8), 32], blk c.toNat = true := by decide
theorem blk_0 : ∀ c ∈ ([] : List UInt8), blk c.toNat = true := fun c h => by cases h
theorem lines_of {t rest : List UInt8} {l : List (List UInt8 × List UInt8)} {e m : List UInt8} (ht : t = spaced l ++ e ++ m) (h : okSp l true) (he : ∀ c ∈ e, blk c.toNat = true) (hm : m = [] ∨ ∃ r, m = 59 :: r) (h10 : (10 : UInt8) ∉ m) :
    (splL (t ++ 10 :: rest)).map wrdL = l.map (·.2) :: (splL rest).map wrdL := by
  subst ht
  exact ln_text (ln_words l e m h he hm h10)
theorem here_lines {pf : List UInt8} (hpf : PfOk pf) (p : Int) (rest : List UInt8) : (splL (hereT pf p ++ rest)).map wrdL = [pf ++ Lib.itoa p ++ [58]] :: (splL rest).map wrdL := by
  have h := lines_of (t := [9] ++ (pf ++ Lib.itoa p) ++ [58, 32, 59, 32, 104, 101, 114, 101]) (rest := rest) (l := [([9], pf ++ Lib.itoa p ++ [58])]) (e := [32]) (m := [59, 32, 104, 101, 114, 101]) (by simp [spaced]) ⟨blk_9, Or.inl rfl, wok_col (wok_pf hpf p), trivial⟩ blk_32 (Or.inr ⟨_, rfl⟩) (by decide)
  have e : hereT pf p ++ rest = [9] ++ (pf ++ Lib.itoa p) ++ [58, 32, 59, 32, 104, 101, 114, 101] ++ 10 :: rest := by unfold hereT; simp
  rw [e, h]
  rfl
theorem itoa_no10 (n : Int) : (10 : UInt8) ∉ Lib.itoa n := fun h => (wok_itoa n).2 10 h |>.2.2 rfl
theorem remark_lines (i : Nat) (rest : List UInt8) : (splL (remarkT i ++ rest)).map wrdL = [] :: [] :: (splL rest).map wrdL := by
  have h := lines_of (t := [32, 32] ++ (59 :: 32 :: Lib.itoa (i : Int))) (rest := rest) (l := []) (e := [32, 32]) (m := 59 :: 32 :: Lib.itoa (i : Int)) (by simp [spaced]) trivial blk_3232 (Or.inr ⟨_, rfl⟩) (by
    intro hm
    rcases List.mem_cons.1 hm with h | hm
    · exact absurd h (by decide)
    · rcases List.mem_cons.1 hm with h | hm
      · exact absurd h (by decide)
      · exact itoa_no10 _ hm)
  have h0 := lines_of (t := []) (rest := [32, 32] ++ (59 :: 32 :: Lib.itoa (i : Int)) ++ 10 :: rest) (l := []) (e := []) (m := []) rfl trivial blk_0 (Or.inl rfl) (by simp)
  have e : remarkT i ++ rest = [] ++ 10 :: ([32, 32] ++ (59 :: 32 :: Lib.itoa (i : Int)) ++ 10 :: rest) := by unfold remarkT; simp
  rw [e, h0, h]
  rfl
theorem line_lines {pf : List UInt8} (hpf : PfOk pf) {x : Ix} (hx : x.op < 34) (rest : List UInt8) : (splL (lineN pf x ++ [10] ++ rest)).map wrdL = insP pf x :: (splL rest).map wrdL := by
  have hle := opn_le x.op
  have hz := (w_zero x.op hx).2.2
  have hw := wok_nm hx
  rw [List.append_assoc, List.singleton_append]
  unfold lineN insP
  cases hj : jmpN x.op with
  | true =>
    exact lines_of (l := [([9], nmL x.op), ([32, 32], pf ++ Lib.itoa x.a)]) (e := []) (m := [59, 120]) (by simp [spaced]) ⟨blk_9, Or.inl rfl, hw, blk_3232, Or.inr (by simp), wok_pf hpf _, trivial⟩ blk_0 (Or.inr ⟨_, rfl⟩) (by decide)
  | false =>
    rcases (by omega : opnN x.op = 0 ∨ opnN x.op = 1 ∨ opnN x.op = 2) with h | h | h <;> rw [h]
    · exact lines_of (l := [([9], nmL x.op)]) (e := [32]) (m := []) (by simp [spaced]) ⟨blk_9, Or.inl rfl, hw, trivial⟩ blk_32 (Or.inl rfl) (by simp)
    · exact lines_of (l := [([9], nmL x.op), ([9], Lib.itoa x.a)]) (e := [32]) (m := []) (by simp [spaced]) ⟨blk_9, Or.inl rfl, hw, blk_9, Or.inr (by simp), wok_itoa _, trivial⟩ blk_32 (Or.inl rfl) (by simp)
    · exact lines_of (l := [([9], nmL x.op), ([9], Lib.itoa x.a), ([32, 32], Lib.itoa x.b)]) (e := [32]) (m := []) (by simp [spaced]) ⟨blk_9, Or.inl rfl, hw, blk_9, Or.inr (by simp), wok_itoa _, blk_3232, Or.inr (by simp), wok_itoa _, trivial⟩ blk_32 (Or.inl rfl) (by simp)
def exR (kk : Nat) (i : Nat) : Nat := if (i + kk) % 3 = 0 then 2 else 0
theorem ren_lines {pf : List UInt8} (hpf : PfOk pf) (kk : Nat) (ts : List Int) {x : Ix} (hx : x.op < 34) (i : Nat) (rest : List UInt8) : (splL (renS pf kk ts x i ++ rest)).map wrdL = itW pf ts x (exR kk i) ++ (splL rest).map wrdL := by
  have h1 : ∀ r, (splL ((lineN pf x ++ [10]) ++ r)).map wrdL = insP pf x :: (splL r).map wrdL := fun r => line_lines hpf hx r
  have h2 : ∀ r, (splL ((if (i + kk) % 3 = 0 then remarkT i else []) ++ r)).map wrdL = List.replicate (exR kk i) [] ++ (splL r).map wrdL := fun r => by
    unfold exR
    split
    · exact remark_lines i r
    · rfl
  have h3 : ∀ r, (splL ((if x.p ∈ ts then hereT pf x.p else []) ++ r)).map wrdL = (if x.p ∈ ts then [[pf ++ Lib.itoa x.p ++ [58]]] else []) ++ (splL r).map wrdL := fun r => by
    split
    · exact here_lines hpf x.p r
    · rfl
  unfold renS itW
  rw [List.append_assoc, List.append_assoc, h3, h2, h1]
  simp
theorem renT_lines {pf : List UInt8} (hpf : PfOk pf) (kk : Nat) (ts : List Int) : ∀ (l : List Ix) (i : Nat), (∀ x ∈ l, x.op < 34) → (splL ((l.zipIdx i).flatMap fun y => renS pf kk ts y.1 y.2)).map wrdL = allW pf ts (exR kk) l i ++ [[]]
  | [], i, _ => rfl
  | x :: t, i, h => by
    rw [List.zipIdx_cons, List.flatMap_cons, ren_lines hpf kk ts (h x List.mem_cons_self), renT_lines hpf kk ts t (i + 1) (fun y hy => h y (List.mem_cons_of_mem _ hy)), allW, List.append_assoc]

theorem pf_l : PfOk [108] := ⟨by decide, by decide, by decide⟩
theorem lab_lines (p : Int) (rest : List UInt8) : (splL (labT p ++ rest)).map wrdL = [[108] ++ Lib.itoa p ++ [58]] :: (splL rest).map wrdL := by
  have h := lines_of (t := labL p ++ [58]) (rest := rest) (l := [([], [108] ++ Lib.itoa p ++ [58])]) (e := []) (m := []) (by simp [spaced, labL]) ⟨blk_0, Or.inl rfl, wok_col (wok_pf pf_l p), trivial⟩ blk_0 (Or.inl rfl) (by simp)
  have e : labT p ++ rest = labL p ++ [58] ++ 10 :: rest := by unfold labT; simp
  rw [e, h]
  rfl
theorem prt_lines {x : Ix} (hx : x.op < 34) (rest : List UInt8) : (splL (lineT x ++ rest)).map wrdL = insP [108] x :: (splL rest).map wrdL := by
  have hle := opn_le x.op
  have hz := (w_zero x.op hx).2.2
  have hw := wok_nm hx
  have e : lineT x ++ rest = ([32, 32] ++ nmL x.op ++ opsT x.op x.a x.b) ++ 10 :: rest := by unfold lineT; rw [ins_ops]; simp
  rw [e]
  unfold opsT insP
  cases hj : jmpN x.op with
  | true =>
    have h1 := hz hj
    rw [h1]
    exact lines_of (l := [([32, 32], nmL x.op), ([32], [108] ++ Lib.itoa x.a)]) (e := []) (m := []) (by simp [spaced]) ⟨blk_3232, Or.inl rfl, hw, blk_32, Or.inr (by simp), wok_pf pf_l _, trivial⟩ blk_0 (Or.inl rfl) (by simp)
  | false =>
    rcases (by omega : opnN x.op = 0 ∨ opnN x.op = 1 ∨ opnN x.op = 2) with h | h | h <;> rw [h]
    · exact lines_of (l := [([32, 32], nmL x.op)]) (e := []) (m := []) (by simp [spaced]) ⟨blk_3232, Or.inl rfl, hw, trivial⟩ blk_0 (Or.inl rfl) (by simp)
    · exact lines_of (l := [([32, 32], nmL x.op), ([32], Lib.itoa x.a)]) (e := []) (m := []) (by simp [spaced]) ⟨blk_3232, Or.inl rfl, hw, blk_32, Or.inr (by simp), wok_itoa _, trivial⟩ blk_0 (Or.inl rfl) (by simp)
    · exact lines_of (l := [([32, 32], nmL x.op), ([32], Lib.itoa x.a), ([32], Lib.itoa x.b)]) (e := []) (m := []) (by simp [spaced]) ⟨blk_3232, Or.inl rfl, hw, blk_32, Or.inr (by simp), wok_itoa _, blk_32, Or.inr (by simp), wok_itoa _, trivial⟩ blk_0 (Or.inl rfl) (by simp)
theorem txtT_lines (ts : List Int) : ∀ (l : List Ix) (i : Nat), (∀ x ∈ l, x.op < 34) → (splL (txtT ts l)).map wrdL = allW [108] ts (fun _ => 0) l i ++ [[]]
  | [], i, _ => rfl
  | x :: t, i, h => by
    have h1 : ∀ r, (splL ((if x.p ∈ ts then labT x.p else []) ++ r)).map wrdL = (if x.p ∈ ts then [[[108] ++ Lib.itoa x.p ++ [58]]] else []) ++ (splL r).map wrdL := fun r => by
      split
      · exact lab_lines x.p r
      · rfl
    have e : txtT ts (x :: t) = (if x.p ∈ ts then labT x.p else []) ++ (lineT x ++ txtT ts t) := by unfold txtT; rw [List.flatMap_cons]; unfold stepT; rw [List.append_assoc]
    rw [e, h1, prt_lines (h x List.mem_cons_self), txtT_lines ts t (i + 1) (fun y hy => h y (List.mem_cons_of_mem _ hy)), allW]
    unfold itW
    simp
/-- Code that Print takes may be read back. -/
theorem cd_of {L : List UInt8} (he : (scR L).2.2 = 0) (hj : ckJ (scR L).1 (scR L).1 = none) (hx : ∀ x ∈ (scR L).1, FitX x) : CdOk L (pts (tgs (scR L).1)) (scR L).1 := by
  obtain ⟨h1, h2⟩ := scR_back he
  refine ⟨h1, h2, fun x hm => ⟨(hx x hm).a0, (hx x hm).a1⟩, fun x hm => ⟨by have := (hx x hm).b0; omega, by have := (hx x hm).b1; omega⟩, fun x hm hjm => ?_⟩
  have ht : x.a ∈ tgs (scR L).1 := by
    unfold tgs
    exact List.mem_map.2 ⟨x, List.mem_filter.2 ⟨hm, hjm⟩, rfl⟩
  have hp : x.a ∈ pts (tgs (scR L).1) := ((pts_both (tgs (scR L).1) [] List.Pairwise.nil).2 x.a).2 (Or.inr ht)
  refine ⟨hp, ?_⟩
  have := tgs_has hj x.a hp
  exact hasP_mem.1 this
end Go.Proofs.YthdgbdjagjagpaaGreatDoor

/-
  What Print tells is read as the code, plainly; a row of bytes with its room; Parse with its answer named.
-/
namespace Go.Proofs.YthdgbdjagjagpaaGreatDoor
open Go.RowKit
set_option maxRecDepth 20000
set_option linter.unusedVariables false
set_option linter.unusedSimpArgs false

theorem prX_ok {L : List UInt8} (h : (prR L).2.2 = 0) : (scR L).2.2 = 0 ∧ ckJ (scR L).1 (scR L).1 = none := by
  rw [prR_prX] at h
  by_cases e : (scR L).2.2 = 0
  · refine ⟨e, ?_⟩
    rw [e] at h
    cases hc : ckJ (scR L).1 (scR L).1 with
    | none => rfl
    | some q => rw [prX_jump hc] at h; exact absurd h (show ¬ (50 : Int) = 0 by decide)
  · rw [prX_bad e] at h; exact absurd h e
theorem prR_none {L : List UInt8} (h : (prR L).2.2 ≠ 0) : (prR L).1 = [] := by
  rw [prR_prX] at h ⊢
  by_cases e : (scR L).2.2 = 0
  · rw [e] at h ⊢
    cases hc : ckJ (scR L).1 (scR L).1 with
    | none => rw [prX_good hc] at h; exact absurd rfl h
    | some q => rw [prX_jump hc]
  · rw [prX_bad e]
theorem sc_fit {L : List UInt8} (he : (scR L).2.2 = 0) : ∀ x ∈ (scR L).1, FitX x := by
  obtain ⟨h1, h2⟩ := scR_back he
  refine fit_of (L := L) (fun x hx => ?_)
  obtain ⟨j, hj, rfl⟩ := List.mem_iff_getElem.1 hx
  have h3 := h1.at_ j _ (List.getElem?_eq_getElem hj)
  have h4 : adr (scR L).1 j ≤ L.length := by
    have h5 : encs (scR L).1 = L := by rw [h1.by_, List.drop_zero]
    unfold adr
    have : encs (scR L).1 = encs ((scR L).1.take j) ++ encs ((scR L).1.drop j) := by
      unfold encs
      rw [← List.flatMap_append, List.take_append_drop]
    rw [h5] at this
    have := congrArg List.length this
    rw [List.length_append] at this
    omega
  exact ⟨eE_op (h1.ok _ hx), by omega, by omega⟩
theorem parS_prt {L : List UInt8} (h : (prR L).2.2 = 0) {s : ByteArray} (hs : (⟨(prR L).1.toArray⟩ : ByteArray) = s) (hz : s.size ≤ 65536) : parS s = (L, 0, 0) := by
  obtain ⟨h1, h2⟩ := prX_ok h
  have hf := sc_fit h1
  refine parS_back (ts := pts (tgs (scR L).1)) (l := (scR L).1) pf_l (fun _ => 0) (cd_of h1 h2 hf) ?_ hz
  rw [← hs, prR_prX, h1, prX_good h2]
  exact txtT_lines (pts (tgs (scR L).1)) (scR L).1 0 (fun x hx => (hf x hx).op)
theorem OwnB.atc {w : World} {base : Nat} {v : Value} {l : List UInt8} (h : OwnB w base v l) : ∃ ao cap, v = .slice ao l.length cap ∧ l.length ≤ cap ∧ BAt w ao l := by
  rcases h.shape with ⟨rfl, rfl⟩ | ⟨g, cap, rfl, _, _, hc, _, hb⟩
  · exact ⟨none, 0, rfl, Nat.le_refl _, BAt.nil _ _⟩
  · exact ⟨_, cap, rfl, hc, hb⟩
theorem parse_as {s : ByteArray} {L : List UInt8} {i : Nat} {er : Int} (h : parS s = (L, i, er)) (w : World) (hW : WidAt w) (hC : WordsC w) (hR : RgAt w) (hM : MlAt w) (hg : 10 ≤ w.heap.size) (hs : s.size ≤ 140737488355328) :
    Calls Tryz.prog 7 #[.string s] w fun e w' => ∃ bo bc, e = .returned (.tuple #[.slice bo L.length bc, .int .i64 (i : Int), .int .i64 er]) ∧ L.length ≤ bc ∧ BAt w' bo L ∧ OwnB w' w.heap.size (.slice bo L.length bc) L ∧ Below w.heap.size w w' := by
  refine (asmParse_any s w hW hC hR hM hg hs).mono ?_
  rintro e w' ⟨v, rfl, hob, hb⟩
  rw [h] at hob ⊢
  obtain ⟨bo, bc, rfl, h1, h2⟩ := hob.atc
  exact ⟨bo, bc, rfl, h1, h2, hob, hb⟩
end Go.Proofs.YthdgbdjagjagpaaGreatDoor
