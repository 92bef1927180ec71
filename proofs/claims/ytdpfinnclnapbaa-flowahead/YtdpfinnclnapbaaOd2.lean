/-
  flow.deepFirst: the blocks in the order in which they are left, turned round, and which were come to.
  The contract of flow.deepFirst.
  provisoref05.leave: the blocks in the order in which they are left, by calls.
  flow.Order and provisoref05.Order: both tell one order.
-/
import Derived.Test.YtdpfinnclnapbaaOd1
import Derived.Test.YtdpfinnclnapbaaFc1
import Derived.Test.YtdpfinnclnapbaaMr
import Derived.Test.YtdpfinnclnapbaaSc1
import Derived.Test.YtdpfinnclnapbaaRv
import Derived.Test.YtdpfinnclnapbaaRc3
import Derived.Deep.DeepCutAuto
namespace Go.Proofs.Ytdpfinnclnapbaa
open Go.RowKit Go.Maps

/-- Where a block's ways on lead. -/
def suG (G : List Bx) (i : Nat) : List (Option Nat) := match G[i]? with | some y => y.nx.map (frI G) | none => []
theorem suG_at {G : List Bx} {i : Nat} {y : Bx} (h : G[i]? = some y) : suG G i = y.nx.map (frI G) := by unfold suG; rw [h]
def wcells (p : Nat × Nat) : List Value := [.int .i64 (p.1 : Int), .int .i64 (p.2 : Int)]
def wvals (l : List (Nat × Nat)) : List Value := l.flatMap wcells
theorem wvals_length (l : List (Nat × Nat)) : (wvals l).length = l.length * 2 := by
  unfold wvals
  induction l with
  | nil => rfl
  | cons f l ih => rw [List.flatMap_cons, List.length_append, ih]; simp [wcells]; omega
theorem wvals_snoc (l : List (Nat × Nat)) (y : Nat × Nat) : wvals (l ++ [y]) = wvals l ++ wcells y := by unfold wvals; simp
theorem wvals_last (l : List (Nat × Nat)) (p : Nat × Nat) : (wvals (l ++ [p]))[l.length * 2]? = some (.int .i64 (p.1 : Int)) ∧ (wvals (l ++ [p]))[l.length * 2 + 1]? = some (.int .i64 (p.2 : Int)) := by
  rw [wvals_snoc, ← wvals_length]
  constructor
  · rw [List.getElem?_append_right (by omega), Nat.sub_self]; rfl
  · rw [List.getElem?_append_right (by omega), show (wvals l).length + 1 - (wvals l).length = 1 from by omega]; rfl
theorem wvals_set (l : List (Nat × Nat)) (i t : Nat) : (wvals (l ++ [(i, t)])).set (l.length * 2 + 1) (.int .i64 ((t + 1 : Nat) : Int)) = wvals (l ++ [(i, t + 1)]) := by
  rw [wvals_snoc, wvals_snoc, ← wvals_length, List.set_append_right _ _ (by omega), show (wvals l).length + 1 - (wvals l).length = 1 from by omega]
  rfl
theorem infoV : (Try.prog.info? 60).map (fun i => (i.zero, i.size, i.bytes)) = some (some (.agg #[.int .i64 0, .int .i64 0]), 2, 16) := by kernel_rfl
theorem wcells_one (y : Nat × Nat) : ∀ u ∈ wcells y, u.oneCell' = true := by
  intro u hu
  simp only [wcells, List.mem_cons, List.mem_nil_iff, or_false] at hu
  rcases hu with rfl | rfl <;> rfl

/-- What holds of each state. -/
structure OkS (G : List Bx) (st : Sts) : Prop where
  wi : ∀ p ∈ st.1, p.1 < G.length ∧ p.2 ≤ (suG G p.1).length
  oi : ∀ i ∈ st.2.2, i < G.length
  bl : st.2.1.length = G.length
  ct : st.1.length + st.2.2.length + fls st.2.1 = G.length
theorem suG_in {G : List Bx} {i t k : Nat} (h : (suG G i)[t]? = some (some k)) : k < G.length := by
  unfold suG at h
  split at h
  · rw [List.getElem?_map] at h
    obtain ⟨a, _, ha⟩ := Option.map_eq_some_iff.1 h
    obtain ⟨x, hx, _⟩ := frI_some ha
    exact (List.getElem?_eq_some_iff.1 hx).1
  · simp at h
theorem OkS.stp {G : List Bx} : ∀ {st : Sts}, OkS G st → OkS G (stpO (suG G) st)
  | ([], B, o), h => h
  | ((i, t) :: r, B, o), h => by
    have hi := h.wi (i, t) (by simp)
    have hr : ∀ p ∈ r, p.1 < G.length ∧ p.2 ≤ (suG G p.1).length := fun p hp => h.wi p (by simp [hp])
    have ho := h.oi
    have hb := h.bl
    have hc := h.ct
    simp only [List.length_cons] at hi ho hb hc
    cases hs : (suG G i)[t]? with
    | none =>
      have e : stpO (suG G) ((i, t) :: r, B, o) = (r, B, o ++ [i]) := by simp only [stpO, hs]
      rw [e]
      refine ⟨hr, ?_, hb, ?_⟩
      · intro j hj
        rcases List.mem_append.1 hj with hj | hj
        · exact ho j hj
        · rw [List.mem_singleton.1 hj]; exact hi.1
      · simp only [List.length_append, List.length_singleton]; omega
    | some s =>
      have ht : t + 1 ≤ (suG G i).length := (List.getElem?_eq_some_iff.1 hs).1
      have hw : ∀ p ∈ (i, t + 1) :: r, p.1 < G.length ∧ p.2 ≤ (suG G p.1).length := by
        intro p hp
        rcases List.mem_cons.1 hp with hp | hp
        · rw [hp]; exact ⟨hi.1, ht⟩
        · exact hr p hp
      cases s with
      | none =>
        have e : stpO (suG G) ((i, t) :: r, B, o) = ((i, t + 1) :: r, B, o) := by simp only [stpO, hs]
        rw [e]
        exact ⟨hw, ho, hb, by simp only [List.length_cons]; omega⟩
      | some k =>
        by_cases hk : B[k]? = some false
        · have e : stpO (suG G) ((i, t) :: r, B, o) = ((k, 0) :: (i, t + 1) :: r, B.set k true, o) := by simp only [stpO, hs]; rw [if_pos hk]
          rw [e]
          have hf := fls_set hk
          refine ⟨?_, ho, by simp only [List.length_set]; exact hb, by simp only [List.length_cons]; omega⟩
          intro p hp
          rcases List.mem_cons.1 hp with hp | hp
          · rw [hp]; exact ⟨suG_in hs, Nat.zero_le _⟩
          · exact hw p hp
        · have e : stpO (suG G) ((i, t) :: r, B, o) = ((i, t + 1) :: r, B, o) := by simp only [stpO, hs]; rw [if_neg hk]
          rw [e]
          exact ⟨hw, ho, hb, by simp only [List.length_cons]; omega⟩

theorem MR.ne_own {w wr : World} {g n : Nat} {F : Nat → Value} (h : MR w wr g n F) {base s m : Nat} {t : TypeId} {v : Value} {cs : List Value} (ho : wr.ownsRow base t s v m cs) (ht : t ≠ 4) : v.ownBlock ≠ some g := by
  intro e
  obtain ⟨c1, g1⟩ := rowTyB ho g e
  obtain ⟨c2, g2, _⟩ := h.row
  rw [g1] at g2
  simp at g2
  exact ht g2.2
theorem MR.grown {w wr w' : World} {g n : Nat} {F : Nat → Value} {row : Option Nat} (h : MR w wr g n F) (hg : wr.grownBy w' row) (hne : row ≠ some g) (hb : ∀ k, row = some k → w.heap.size ≤ k) : MR w w' g n F :=
  ⟨h.row.of_block (hg.block _ h.row.lt (fun e => hne e.symm)), h.ge, h.bel.grown hg h.bel.size hb⟩

structure DS (w wr : World) (gI : Nat) (G : List Bx) (vo vw : Value) (st : Sts) : Prop where
  ord : OwnJ wr w.heap.size vo (jn st.2.2)
  into : MR w wr gI G.length (bAt st.2.1)
  way : wr.ownsRow w.heap.size 60 2 vw st.1.length (wvals st.1.reverse)
  ok : OkS G st
  sl : ∃ gw cap, vw = .slice (some ⟨gw, 0, none⟩) st.1.length cap
theorem rowsNe {w : World} {B B' s s' n n' : Nat} {t t' : TypeId} {v v' : Value} {cs cs' : List Value} (h : w.ownsRow B t s v n cs) (h' : w.ownsRow B' t' s' v' n' cs') (hne : t ≠ t') : ∀ k, v.ownBlock = some k → v'.ownBlock ≠ some k := by
  intro k e1 e2
  obtain ⟨c1, g1⟩ := rowTyB h k e1
  obtain ⟨c2, g2⟩ := rowTyB h' k e2
  rw [g1] at g2
  simp at g2
  exact hne g2.2
theorem DS.below {w wr w' : World} {gI : Nat} {G : List Bx} {vo vw : Value} {st : Sts} (h : DS w wr gI G vo vw st) (hb : Below wr.heap.size wr w') : DS w w' gI G vo vw st :=
  ⟨h.ord.below hb, h.into.below hb, rowBelowJ h.way hb, h.ok, h.sl⟩
/-- What is left. -/
theorem DS.pop {w wr w' : World} {gI i t : Nat} {G : List Bx} {vo vo' vw : Value} {r : List (Nat × Nat)} {B : List Bool} {o : List Nat} {gw cap : Nat} (h : DS w wr gI G vo vw ((i, t) :: r, B, o)) (hs : (suG G i)[t]? = none) (hv : vw = .slice (some ⟨gw, 0, none⟩) (r.length + 1) cap)
    (ho : OwnJ w' w.heap.size vo' (jn (o ++ [i]))) (hg : wr.grownBy w' vo.ownBlock) : DS w w' gI G vo' (.slice (some ⟨gw, 0, none⟩) r.length cap) (stpO (suG G) ((i, t) :: r, B, o)) := by
  have hok := h.ok.stp
  have e : stpO (suG G) ((i, t) :: r, B, o) = (r, B, o ++ [i]) := by simp only [stpO, hs]
  rw [e] at hok ⊢
  have hne : ∀ g, vw.ownBlock = some g → vo.ownBlock ≠ some g := rowsNe h.way h.ord (by decide)
  have hw2 := rows_grownB h.way hg hne
  refine ⟨ho, h.into.grown hg (h.into.ne_own h.ord (by decide)) (fun k e => (World.ownsRow.lt h.ord k e).1), ?_, hok, ⟨gw, cap, rfl⟩⟩
  subst hv
  rcases hw2 with ⟨hl, ⟨h1, _⟩ | ⟨g', cap', cur, hv, hb, hh, hn, hm, hsz, ht⟩⟩
  · simp at h1
  · injection hv with e1 _ e2
    injection e1 with e1
    injection e1 with e1
    subst e1 e2
    simp only [List.length_cons] at hn ht
    refine ⟨by rw [wvals_length, List.length_reverse], Or.inr ⟨gw, cap, cur, rfl, hb, hh, by simp only; omega, hm, hsz, ?_⟩⟩
    have := congrArg (List.take (r.length * 2)) ht
    rw [List.take_take, Nat.min_eq_left (by omega), List.reverse_cons, wvals_snoc, List.take_left' (by rw [wvals_length, List.length_reverse])] at this
    exact this
/-- A way that leads nowhere, or to where one was. -/
theorem DS.skip {w wr : World} {gI i t : Nat} {G : List Bx} {vo : Value} {r : List (Nat × Nat)} {B : List Bool} {o : List Nat} {gw cap : Nat} (h : DS w wr gI G vo (.slice (some ⟨gw, 0, none⟩) (r.length + 1) cap) ((i, t) :: r, B, o)) :
    OwnJ (wr.setCell ⟨gw, r.length * 2 + 1, none⟩ (.int .i64 ((t + 1 : Nat) : Int))) w.heap.size vo (jn o) ∧ MR w (wr.setCell ⟨gw, r.length * 2 + 1, none⟩ (.int .i64 ((t + 1 : Nat) : Int))) gI G.length (bAt B) ∧
      (wr.setCell ⟨gw, r.length * 2 + 1, none⟩ (.int .i64 ((t + 1 : Nat) : Int))).ownsRow w.heap.size 60 2 (.slice (some ⟨gw, 0, none⟩) (r.length + 1) cap) (r.length + 1) (wvals ((i, t + 1) :: r).reverse) := by
  have hst := World.ownsRow.stored h.way (r.length * 2 + 1) (.int .i64 ((t + 1 : Nat) : Int))
  have e : (wvals ((i, t) :: r).reverse).set (r.length * 2 + 1) (.int .i64 ((t + 1 : Nat) : Int)) = wvals ((i, t + 1) :: r).reverse := by
    have h1 := wvals_set r.reverse i t
    rw [List.length_reverse] at h1
    rw [List.reverse_cons, List.reverse_cons]
    exact h1
  have hb1 : (Value.slice (some ⟨gw, 0, none⟩) (r.length + 1) cap).ownBlock = some gw := rfl
  refine ⟨rows_grownB h.ord hst.2 (fun g e1 e2 => ?_), h.into.grown hst.2 (fun e1 => h.into.ne_own h.way (by decide) (hb1.trans e1)) (fun k e1 => (World.ownsRow.lt h.way k (hb1.trans e1)).1), ?_⟩
  · exact rowsNe h.ord h.way (by decide) g e1 (hb1.trans e2)
  · have := hst.1
    rw [e] at this
    exact this
def PD (w : World) (gI : Nat) (G : List Bx) (fin : Sts) (vo vw : Value) (wr : World) (n : Nat) : Prop := ∃ st, DS w wr gI G vo vw st ∧ itr (suG G) n st = fin
theorem pd_less {w : World} {gI : Nat} {G : List Bx} {fin : Sts} {vo vw vo' vw' : Value} {wr wr' : World} {n0 m : Nat} (h0 : lst (PD w gI G fin vo vw wr) = n0) (hm : n0 = m + 1) (h : PD w gI G fin vo' vw' wr' m) : lst (PD w gI G fin vo' vw' wr') < lst (PD w gI G fin vo vw wr) := by
  have := (lst_is h).2
  omega
theorem stpO_none {S : Nat → List (Option Nat)} {i t : Nat} {r : List (Nat × Nat)} {B : List Bool} {o : List Nat} (h : (S i)[t]? = some none) : stpO S ((i, t) :: r, B, o) = ((i, t + 1) :: r, B, o) := by simp only [stpO, h]
theorem stpO_old {S : Nat → List (Option Nat)} {i t k : Nat} {r : List (Nat × Nat)} {B : List Bool} {o : List Nat} (h : (S i)[t]? = some (some k)) (hk : B[k]? ≠ some false) : stpO S ((i, t) :: r, B, o) = ((i, t + 1) :: r, B, o) := by simp only [stpO, h]; rw [if_neg hk]
theorem stpO_new {S : Nat → List (Option Nat)} {i t k : Nat} {r : List (Nat × Nat)} {B : List Bool} {o : List Nat} (h : (S i)[t]? = some (some k)) (hk : B[k]? = some false) : stpO S ((i, t) :: r, B, o) = ((k, 0) :: (i, t + 1) :: r, B.set k true, o) := by simp only [stpO, h]; rw [if_pos hk]
/-- In which order blocks are left, from block 0 on; and which are come to. -/
def lvO (G : List Bx) : List Bool × List Nat := lvF (suG G) G.length 0 (List.replicate G.length false)
theorem fls_rep (n : Nat) : fls (List.replicate n false) = n := by unfold fls; simp
theorem lvO_itr {G : List Bx} (h : 1 ≤ G.length) : ∃ n, itr (suG G) n ([(0, 0)], (List.replicate G.length false).set 0 true, []) = ([], (lvO G).1, (lvO G).2) := by
  have := itr_lv (suG G) G.length 0 (List.replicate G.length false) [] [] (by rw [List.getElem?_replicate, if_pos (by omega)]) (by rw [fls_rep]; exact Nat.le_refl _)
  obtain ⟨n, hn⟩ := this
  exact ⟨n, hn⟩
theorem DS.start {w w3 : World} {gI : Nat} {G : List Bx} (h : MR w w3 gI G.length (bAt ((List.replicate G.length false).set 0 true))) (h1 : 1 ≤ G.length) :
    DS w (w3.alloc (.cells #[.int .i64 0, .int .i64 0] 60)) gI G (.slice none 0 0) (.slice (some ⟨w3.heap.size, 0, none⟩) 1 1) ([(0, 0)], (List.replicate G.length false).set 0 true, []) := by
  have hal : Below w3.heap.size w3 (w3.alloc (.cells #[.int .i64 0, .int .i64 0] 60)) := (Below.refl _ _).alloc (Nat.le_refl _) _
  refine ⟨OwnJ.nil _ _, h.below hal, ⟨rfl, Or.inr ⟨w3.heap.size, 1, #[.int .i64 0, .int .i64 0], rfl, h.bel.size, heap_alloc_new w3 _, Nat.le_refl _, by unfold maxLen; omega, rfl, rfl⟩⟩, ⟨?_, ?_, ?_, ?_⟩, ⟨_, _, rfl⟩⟩
  · intro p hp
    rw [List.mem_singleton.1 hp]
    exact ⟨h1, Nat.zero_le _⟩
  · intro i hi; cases hi
  · simp
  · have := fls_set (B := List.replicate G.length false) (k := 0) (by rw [List.getElem?_replicate, if_pos (by omega)])
    rw [fls_rep] at this
    simp only [List.length_singleton, List.length_nil]
    omega

theorem own_cap {w : World} {base s g n cap : Nat} {t : TypeId} {xs : List Value} (h : w.ownsRow base t s (.slice (some ⟨g, 0, none⟩) n cap) n xs) : n ≤ cap := by
  rcases h.2 with ⟨h1, _⟩ | ⟨g', cap', cur, hv, _, _, hn, _⟩
  · cases h1
  · injection hv with _ _ e
    rw [e]; exact hn

set_option maxRecDepth 20000 in
set_option maxHeartbeats 8000000 in
theorem deepFirst_any (ao : Option Addr) (c : Nat) (G : List Bx) (w : World) (hx : BksAt w ao G) (h1 : 1 ≤ G.length) (hz : G.length ≤ 3518437208883) (hnl : ∀ y ∈ G, y.nx.length ≤ 17592186044416) (hbf : ∀ y ∈ G, -9223372036854775808 ≤ y.fr ∧ y.fr ≤ 9223372036854775807) (hbn : ∀ y ∈ G, ∀ a ∈ y.nx, -9223372036854775808 ≤ a ∧ a ≤ 9223372036854775807) :
    Calls Try.prog 17 #[.slice ao G.length c] w fun e w' => ∃ v gI, e = .returned (.tuple #[v, .slice (some ⟨gI, 0, none⟩) G.length G.length]) ∧ OwnJ w' w.heap.size v (jn (lvO G).2.reverse) ∧ MR w w' gI G.length (bAt (lvO G).1) := by
  obtain ⟨i0, hi, hz0, hz1, hz2⟩ := info_parts infoJ
  obtain ⟨i1, hi1, hv0, hv1, hv2⟩ := info_parts infoV
  have hmk := run_make_row' (P := Try.prog) 42 4 (.bool false) 1 Try.underlying42 infoBo rfl .i64 .i64 G.length (by omega) (by omega)
  have HFi := hide (firstsB_any ao c G w hx (by omega) hbf)
  have HX := hide hx
  have HNL := hide hnl
  have HBN := hide hbn
  clear hx hnl hbf hbn
  go_enter Try.func17, Try.ntmps17
  go_wp2_with fail
  refine (unhide HFi).mono ?_
  rintro e w1 ⟨rfl, hM1, hB1⟩
  obtain ⟨gm, HGM⟩ : ∃ m, Hid (w.heap.size + 1 = m) := ⟨_, hide rfl⟩
  rw [unhide HGM] at hM1 ⊢
  have HM1 := hide hM1
  have HB1 := hide hB1
  have HX1 := hide ((unhide HX).below hB1)
  have HR := hide (MR.made (Below.refl w1.heap.size w1) G.length)
  clear hM1 hB1 HFi HX HGM
  go_upto_region 3 with fail
  generalize (w1.alloc (.cells (madeCells #[.bool false] G.length) 4)) = w2 at HR ⊢
  generalize hgI : w1.heap.size = gI at HR ⊢
  have hc := (unhide HR).row.cell (show 0 < G.length by omega)
  have hf := (unhide HR).row.frozen 0
  have j0 : (0 : Int) < ((G.length : Nat) : Int) := by omega
  have HR2 := hide ((unhide HR).marked (by simp) (show 0 < G.length by omega))
  clear hmk
  go_upto_region 4 with fail
  clear hc hf HR
  generalize (w2.setCell ⟨gI, 0, none⟩ (.bool true)) = w3 at HR2 ⊢
  have HD0 := hide (DS.start (unhide HR2) h1)
  obtain ⟨N, hN⟩ := lvO_itr h1
  obtain ⟨fin, HFN⟩ : ∃ fin, Hid (([], (lvO G).1, (lvO G).2) = fin) := ⟨_, hide rfl⟩
  rw [unhide HFN] at hN
  have HP0 : Hid (PD w1 gI G fin (.slice none 0 0) (.slice (some ⟨w3.heap.size, 0, none⟩) 1 1) (w3.alloc (.cells #[.int .i64 0, .int .i64 0] 60)) N) := hide ⟨_, unhide HD0, hN⟩
  clear hN HD0 HR2 hgI
  go_wp2_with fail
  go_loopw [2, 5] (fun vo vw wr => Hid (∃ n, PD w1 gI G fin vo vw wr n)) (fun vo vw wr => lst (PD w1 gI G fin vo vw wr))
  case atStart => exact hide ⟨N, unhide HP0⟩
  case round =>
    obtain ⟨n1, hn1⟩ := unhide hrel
    obtain ⟨hP, _⟩ := lst_is hn1
    obtain ⟨n0, HN0⟩ : ∃ n0, Hid (lst (PD w1 gI G fin u2 u5 wr) = n0) := ⟨_, hide rfl⟩
    rw [unhide HN0] at hP
    obtain ⟨⟨way, B, o⟩, hD, hit⟩ := hP
    clear hn1 hrel HP0
    cases way with
    | nil =>
      rw [itr_nil, ← unhide HFN] at hit
      injection hit with _ hit
      injection hit with e1 e2
      subst e1 e2
      obtain ⟨gw, cap, rfl⟩ := hD.sl
      have hol : (lvO G).2.length ≤ G.length := by have := hD.ok.ct; simp only [List.length_nil] at this; omega
      have HRv := hide (Reverse_own hD.ord (by rw [show (jn (lvO G).2).length = (lvO G).2.length from by unfold jn; simp]; omega))
      have HD := hide hD
      clear hD hol HN0 HFN
      go_wp2_with fail
      refine (unhide HRv).mono ?_
      rintro e w5 ⟨rfl, hO5, hG5⟩
      have HI5 := hide ((unhide HD).into.grown hG5 ((unhide HD).into.ne_own (unhide HD).ord (by decide)) (fun k e => (World.ownsRow.lt (unhide HD).ord k e).1))
      have HO5 := hide hO5
      clear hO5 hG5 HRv
      go_wp2
      go_ret2
      have hb1 := unhide HB1
      refine ⟨u2, gI, rfl, ?_, ⟨(unhide HI5).row, Nat.le_trans hb1.size (unhide HI5).ge, hb1.trans ((unhide HI5).bel.mono hb1.size)⟩⟩
      have h5 := ownJ_mono (unhide HO5) hb1.size
      rw [show (jn (lvO G).2).reverse = jn (lvO G).2.reverse from by unfold jn; rw [List.map_reverse]] at h5
      exact h5
    | cons p r =>
      obtain ⟨i, t⟩ := p
      obtain ⟨m0, rfl⟩ : ∃ m, n0 = m + 1 := by
        cases n0 with
        | zero =>
          have : ((i, t) :: r, B, o) = fin := hit
          rw [← unhide HFN] at this
          injection this with this
          cases this
        | succ m => exact ⟨m, rfl⟩
      have HIT : Hid (itr (suG G) m0 (stpO (suG G) ((i, t) :: r, B, o)) = fin) := hide hit
      have hil := (hD.ok.wi (i, t) (by simp)).1
      have htl := (hD.ok.wi (i, t) (by simp)).2
      simp only at hil htl
      have hct := hD.ok.ct
      simp only [List.length_cons] at hct
      have hbl := hD.ok.bl
      simp only at hbl
      obtain ⟨gw, cap, rfl⟩ := hD.sl
      have hy := List.getElem?_eq_getElem hil
      have hym := unhide HNL _ (List.getElem_mem hil)
      have hyb := unhide HBN _ (List.getElem_mem hil)
      rw [suG_at hy, List.length_map] at htl
      have HSU := hide (suG_at hy)
      obtain ⟨b, off, rfl, hyx⟩ := (unhide HX1).below hD.into.bel i _ hy
      generalize G[i] = y at hy hym hyb htl HSU hyx
      have HYN := hide hyx.nxt
      have q2 := hyx.c2
      obtain ⟨yf, yl, yo, yc, yn⟩ := y
      simp only at hym hyb htl HSU HYN q2
      have hway := hD.way
      simp only [List.length_cons, List.reverse_cons] at hway
      obtain ⟨e1, e2⟩ := wvals_last r.reverse (i, t)
      rw [List.length_reverse] at e1 e2
      have a0 := (World.ownsRow.cellAt hway (r.length * 2) (by omega)).trans e1
      have a1 := (World.ownsRow.cellAt hway (r.length * 2 + 1) (by omega)).trans e2
      have f1 := World.ownsRow.frozenAt hway (r.length * 2 + 1)
      have hcap := own_cap hway
      have hcap2 : r.length ≤ cap := by omega
      have jA : ((r.length + 1 : Nat) : Int) - 1 = ((r.length : Nat) : Int) := by omega
      have jA2 : ((r.length : Nat) : Int) < ((r.length + 1 : Nat) : Int) := by omega
      have jA3 : ((r.length + 1 : Nat) : Int) > 0 := by omega
      have ji : ((i : Nat) : Int) < ((G.length : Nat) : Int) := by omega
      have HD := hide hD
      have HBY := hide hyb
      simp only [List.length_cons]
      clear hD hy hyx hit e1 e2 hway hyb
      by_cases ht : t = yn.length
      · have jt : (((t : Nat) : Int) == ((yn.length : Nat) : Int)) = true := by rw [ht]; simp
        subst ht
        have HS : Hid ((suG G i)[yn.length]? = none) := hide (by rw [unhide HSU]; exact List.getElem?_eq_none (by simp))
        have hal : Below wr.heap.size wr (wr.alloc (.cells #[.int .i64 ((i : Nat) : Int)] 3)) := (Below.refl _ _).alloc (Nat.le_refl _) _
        have HD2 := hide ((unhide HD).below hal)
        have hsz := (unhide HD).into.bel.size
        have hO7 := (unhide HD2).ord
        unfold OwnJ at hO7
        simp only [show (jn o).length = o.length from by unfold jn; simp] at hO7
        have HO7 := hide hO7
        clear hO7 hal HD f1
        go_wp2_with (at_builtin; refine wpList_append_own _ rfl _ _ 23 rfl w1.heap.size 3 i0 (.int .i64 0) 1 8 Try.underlying23 hi hz0 hz1 hz2 rfl (by decide) _ o.length (jvals (jn o)) rfl (unhide HO7) ⟨wr.heap.size, 0, none⟩ 1 1 [.int .i64 ((i : Nat) : Int)] rfl rfl (cell_one_newJ _ _ _) (by simp [Value.oneCell']) ?a3 ?a4 ?a5 ?_)
        case a3 => unfold maxLen; omega
        case a4 => omega
        case a5 => omega
        intro v8 w8 hO8 hG8 _
        have HD8 := hide ((unhide HD2).pop (unhide HS) rfl (by
          unfold OwnJ
          rw [show (jn (o ++ [i])).length = o.length + 1 from by unfold jn; simp, show jvals (jn (o ++ [i])) = jvals (jn o) ++ [.int .i64 ((i : Nat) : Int)] from by unfold jvals jn; simp]
          exact hO8) hG8)
        clear hO8 hG8
        go_wp2
        go_roundw
        case rel => exact hide ⟨m0, _, unhide HD8, unhide HIT⟩
        case measure => exact pd_less (unhide HN0) rfl ⟨_, unhide HD8, unhide HIT⟩
      · have jt : (((t : Nat) : Int) == ((yn.length : Nat) : Int)) = false := by simp; omega
        have htl2 : t < yn.length := by omega
        have jt2 : ((t : Nat) : Int) < ((yn.length : Nat) : Int) := by omega
        have ha := List.getElem?_eq_getElem htl2
        have hab := unhide HBY _ (List.getElem_mem htl2)
        generalize yn[t] = a at ha hab
        obtain ⟨nb, no, rfl, hac⟩ := (unhide HYN) t a ha
        have hwf := wf_of hab
        have HS : Hid ((suG G i)[t]? = some (frI G a)) := hide (by rw [unhide HSU, List.getElem?_map, ha]; rfl)
        have HMr : Hid (MapBt wr gm G.length (bkb G)) := hide (World.ownsMap.kept (unhide HM1) (grownX (unhide HD).into.bel) (fun e => by cases e))
        have HSK := hide (unhide HD).skip
        clear ha hab ht htl
        go_upto_region 12 with (at_lookup; refine wpList_lookup_own_ok_int _ rfl _ _ 56 rfl 3 3 .i64 lawK Try.underlying56 Try.underlying3 (zeroX _) gm G.length (gMap (bkb G)) rfl (unhide HMr) _ _ rfl (keyOf_int_mk Try.underlying3 hwf) ?_; intro cc hat hwc; have HAT := hide hat; clear hat hwc)
        rw [has_gMap]
        rw [show ((t + 1 : Nat) : Int) = ((t : Nat) : Int) + 1 from by omega] at HSK
        have HOK := hide (unhide HD).ok.stp
        cases hfr : frI G a with
        | none =>
          rw [hfr] at HS
          rw [stpO_none (unhide HS)] at HIT HOK
          simp only [Option.isSome_none]
          clear hfr hac
          go_upto_region 13 with fail
          generalize (wr.setCell ⟨gw, r.length * 2 + 1, none⟩ (.int .i64 (((t : Nat) : Int) + 1))) = w4 at HSK ⊢
          have HD4 : Hid (DS w1 w4 gI G u2 (.slice (some ⟨gw, 0, none⟩) (r.length + 1) cap) ((i, t + 1) :: r, B, o)) := hide ⟨(unhide HSK).1, (unhide HSK).2.1, (unhide HSK).2.2, unhide HOK, ⟨gw, cap, rfl⟩⟩
          clear a0 a1 f1 HD q2
          go_wp2
          go_roundw
          case rel => exact hide ⟨m0, _, unhide HD4, unhide HIT⟩
          case measure => exact pd_less (unhide HN0) rfl ⟨_, unhide HD4, unhide HIT⟩
        | some k =>
          rw [hfr] at HS
          simp only [Option.isSome_some]
          have hcc : cc = (k : Int) := by
            have h1 := unhide HAT
            rw [at_gMap hfr] at h1
            injection h1 with h1
            injection h1 with _ h1
            exact h1.symm
          subst hcc
          obtain ⟨x, hxk, _⟩ := frI_some hfr
          have hkl : k < G.length := (List.getElem?_eq_some_iff.1 hxk).1
          have hbk := List.getElem?_eq_getElem (show k < B.length by omega)
          generalize B[k]'(by omega) = bk at hbk
          have jk : ((k : Nat) : Int) < ((G.length : Nat) : Int) := by omega
          have jk0 : (0 : Int) ≤ ((k : Nat) : Int) := by omega
          clear hfr hac hxk HAT
          go_upto_region 13 with fail
          generalize (wr.setCell ⟨gw, r.length * 2 + 1, none⟩ (.int .i64 (((t : Nat) : Int) + 1))) = w4 at HSK ⊢
          have hck := (unhide HSK).2.1.cellB hkl hbk
          have hfk := (unhide HSK).2.1.row.frozen k
          clear a0 a1 f1 HD q2
          cases bk
          · rw [stpO_new (unhide HS) hbk] at HIT HOK
            have HM5 := hide ((unhide HSK).2.1.marked hbl hkl)
            have hne1 : ∀ g, (Value.slice (some ⟨gw, 0, none⟩) (r.length + 1) cap).ownBlock = some g → some gI ≠ some g := fun g e e2 => (unhide HSK).2.1.ne_own (unhide HSK).2.2 (by decide) (by rw [e, e2])
            have hne2 : ∀ g, u2.ownBlock = some g → some gI ≠ some g := fun g e e2 => (unhide HSK).2.1.ne_own (unhide HSK).1 (by decide) (by rw [e, e2])
            have hg5 : w4.grownBy (w4.setCell ⟨gI, k, none⟩ (.bool true)) (some gI) := ⟨rfl, rfl, rfl, by rw [World.size_setCell]; exact Nat.le_refl _, fun q _ hn => Below.heap_setCell w4 ⟨gI, k, none⟩ (.bool true) q (fun e => hn (by rw [e]))⟩
            have HW5 := hide (rows_grownB (unhide HSK).2.2 hg5 hne1)
            have HO5 : Hid (OwnJ (w4.setCell ⟨gI, k, none⟩ (.bool true)) w1.heap.size u2 (jn o)) := hide (rows_grownB (unhide HSK).1 hg5 hne2)
            clear hne1 hne2 hg5 hbk HSK
            go_upto_region 15 with fail
            generalize (w4.setCell ⟨gI, k, none⟩ (.bool true)) = w5 at HM5 HW5 HO5 ⊢
            clear hck hfk
            have hal : Below w5.heap.size w5 (w5.alloc (.cells #[.int .i64 ((k : Nat) : Int), .int .i64 0] 60)) := (Below.refl _ _).alloc (Nat.le_refl _) _
            have HW6 := hide (rowBelowJ (unhide HW5) hal)
            have HM6 := hide ((unhide HM5).below hal)
            have HO6 := hide ((unhide HO5).below hal)
            have hsz := (unhide HM5).bel.size
            clear hal HW5 HM5 HO5
            go_wp2_with (at_builtin; refine wpList_append_own _ rfl _ _ 61 rfl w1.heap.size 60 i1 (.agg #[.int .i64 0, .int .i64 0]) 2 16 Try.underlying61 hi1 hv0 hv1 hv2 rfl (by decide) _ (r.length + 1) (wvals ((i, t + 1) :: r).reverse) rfl (unhide HW6) ⟨w5.heap.size, 0, none⟩ 1 1 (wcells (k, 0)) rfl rfl (World.news_of_block (cs := #[.int .i64 ((k : Nat) : Int), .int .i64 0]) (t := 60) (fr := (0, 0)) (heap_alloc_new w5 _)) (wcells_one _) ?a3 ?a4 ?a5 ?_)
            case a3 => unfold maxLen; omega
            case a4 => omega
            case a5 => omega
            intro v8 w8 hO8 hG8 hnn
            have HD8 : Hid (DS w1 w8 gI G u2 v8 ((k, 0) :: (i, t + 1) :: r, B.set k true, o)) := hide ⟨rows_grownB (unhide HO6) hG8 (fun g e e2 => rowsNe (unhide HO6) (unhide HW6) (by decide) g e e2), (unhide HM6).grown hG8 ((unhide HM6).ne_own (unhide HW6) (by decide)) (fun q e => (World.ownsRow.lt (unhide HW6) q e).1), by
              rw [← wvals_snoc] at hO8
              have e : ((k, 0) :: (i, t + 1) :: r).reverse = r.reverse ++ [(i, t + 1)] ++ [(k, 0)] := by rw [List.reverse_cons, List.reverse_cons]
              show w8.ownsRow w1.heap.size 60 2 v8 (r.length + 1 + 1) (wvals ((k, 0) :: (i, t + 1) :: r).reverse)
              rw [e]
              exact hO8, unhide HOK, by
              rcases hO8.2 with ⟨e1, _⟩ | ⟨g', cap', cur, hv, _⟩
              · exact (hnn e1).elim
              · exact ⟨g', cap', hv⟩⟩
            clear hO8 hG8 hnn
            go_wp2
            go_roundw
            case rel => exact hide ⟨m0, _, unhide HD8, unhide HIT⟩
            case measure => exact pd_less (unhide HN0) rfl ⟨_, unhide HD8, unhide HIT⟩
          · rw [stpO_old (unhide HS) (by rw [hbk]; simp)] at HIT HOK
            have HD4 : Hid (DS w1 w4 gI G u2 (.slice (some ⟨gw, 0, none⟩) (r.length + 1) cap) ((i, t + 1) :: r, B, o)) := hide ⟨(unhide HSK).1, (unhide HSK).2.1, (unhide HSK).2.2, unhide HOK, ⟨gw, cap, rfl⟩⟩
            clear hbk hfk
            go_wp2
            go_roundw
            case rel => exact hide ⟨m0, _, unhide HD4, unhide HIT⟩
            case measure => exact pd_less (unhide HN0) rfl ⟨_, unhide HD4, unhide HIT⟩
theorem lvL_ct {S : Nat → List (Option Nat)} {f : Nat} (hr : ∀ i B, B[i]? = some false → fls B ≤ f → (lvF S f i B).2.length + fls (lvF S f i B).1 = fls B) : ∀ (t : List (Option Nat)) (B : List Bool), fls B ≤ f → (lvL (lvF S f) t B).2.length + fls (lvL (lvF S f) t B).1 = fls B
  | [], B, _ => by simp [lvL]
  | none :: t, B, h => lvL_ct hr t B h
  | some k :: t, B, h => by
    unfold lvL
    split
    · rename_i hk
      have h1 := hr k B hk h
      have h2 := lvL_ct hr t (lvF S f k B).1 (Nat.le_trans (lvF_len S f k B).2 h)
      simp only [List.length_append]
      omega
    · exact lvL_ct hr t B h
theorem lvF_ct (S : Nat → List (Option Nat)) : ∀ (f i : Nat) (B : List Bool), B[i]? = some false → fls B ≤ f → (lvF S f i B).2.length + fls (lvF S f i B).1 = fls B
  | 0, i, B, hi, hf => by have := fls_set hi; omega
  | f + 1, i, B, hi, hf => by
    have h1 := fls_set hi
    have h2 := lvL_ct (lvF_ct S f) (S i) (B.set i true) (by omega)
    unfold lvF
    simp only [List.length_append, List.length_singleton]
    omega
theorem lvL_in {G : List Bx} {f : Nat} (hr : ∀ i B, i < G.length → ∀ j ∈ (lvF (suG G) f i B).2, j < G.length) : ∀ (t : List (Option Nat)) (B : List Bool), (∀ k, some k ∈ t → k < G.length) → ∀ j ∈ (lvL (lvF (suG G) f) t B).2, j < G.length
  | [], B, _, j, hj => by simp [lvL] at hj
  | none :: t, B, h, j, hj => lvL_in hr t B (fun k hk => h k (by simp [hk])) j hj
  | some k :: t, B, h, j, hj => by
    unfold lvL at hj
    split at hj
    · rcases List.mem_append.1 hj with hj | hj
      · exact hr k B (h k (by simp)) j hj
      · exact lvL_in hr t _ (fun k hk => h k (by simp [hk])) j hj
    · exact lvL_in hr t B (fun k hk => h k (by simp [hk])) j hj
theorem lvF_in (G : List Bx) : ∀ (f i : Nat) (B : List Bool), i < G.length → ∀ j ∈ (lvF (suG G) f i B).2, j < G.length
  | 0, i, B, hi, j, hj => by simp [lvF] at hj
  | f + 1, i, B, hi, j, hj => by
    unfold lvF at hj
    rcases List.mem_append.1 hj with hj | hj
    · refine lvL_in (lvF_in G f) _ _ (fun k hk => ?_) j hj
      obtain ⟨t, ht⟩ := List.mem_iff_getElem?.1 hk
      exact suG_in ht
    · rw [List.mem_singleton.1 hj]; exact hi

structure LS (w0 w : World) (gI : Nat) (G : List Bx) (vo : Value) (B : List Bool) (o : List Nat) : Prop where
  ord : OwnJ w w0.heap.size vo (jn o)
  into : MR w0 w gI G.length (bAt B)
theorem LS.below {w0 w w' : World} {gI : Nat} {G : List Bx} {vo : Value} {B : List Bool} {o : List Nat} (h : LS w0 w gI G vo B o) (hb : Below w.heap.size w w') : LS w0 w' gI G vo B o := ⟨h.ord.below hb, h.into.below hb⟩
theorem grown_setCell (w : World) (g i : Nat) (v : Value) : w.grownBy (w.setCell ⟨g, i, none⟩ v) (some g) :=
  ⟨rfl, rfl, rfl, by rw [World.size_setCell]; exact Nat.le_refl _, fun k _ hn => Below.heap_setCell w ⟨g, i, none⟩ v k (fun e => hn (by rw [e]))⟩
theorem LS.mark {w0 w : World} {gI k : Nat} {G : List Bx} {vo : Value} {B : List Bool} {o : List Nat} (h : LS w0 w gI G vo B o) (hl : B.length = G.length) (hk : k < G.length) : LS w0 (w.setCell ⟨gI, k, none⟩ (.bool true)) gI G vo (B.set k true) o :=
  ⟨rows_grownB h.ord (grown_setCell w gI k _) (fun g e e2 => h.into.ne_own h.ord (by decide) (by rw [e, ← e2])), h.into.marked hl hk⟩
theorem LS.more {w0 w w' : World} {gI i : Nat} {G : List Bx} {vo vo' : Value} {B : List Bool} {o : List Nat} (h : LS w0 w gI G vo B o) (ho : OwnJ w' w0.heap.size vo' (jn (o ++ [i]))) (hg : w.grownBy w' vo.ownBlock) : LS w0 w' gI G vo' B (o ++ [i]) :=
  ⟨ho, h.into.grown hg (h.into.ne_own h.ord (by decide)) (fun k e => (World.ownsRow.lt h.ord k e).1)⟩
theorem jn_len (o : List Nat) : (jn o).length = o.length := by unfold jn; simp
theorem jn_snoc (o : List Nat) (i : Nat) : jvals (jn (o ++ [i])) = jvals (jn o) ++ [.int .i64 (i : Int)] := by unfold jvals jn; simp
/-- How far the ways on were gone through. -/
structure Mid (R : Nat → List Bool → List Bool × List Nat) (q : List (Option Nat)) (B1 : List Bool) (o : List Nat) (k : Nat) (B : List Bool) (oo : List Nat) : Prop where
  a : (lvL R q B1).1 = (lvL R (q.drop k) B).1
  b : o ++ (lvL R q B1).2 = oo ++ (lvL R (q.drop k) B).2
theorem Mid.none {R : Nat → List Bool → List Bool × List Nat} {q : List (Option Nat)} {B1 B : List Bool} {o oo : List Nat} {k : Nat} (h : Mid R q B1 o k B oo) (hq : q[k]? = some none) : Mid R q B1 o (k + 1) B oo := by
  have e : q.drop k = Option.none :: q.drop (k + 1) := by
    rw [← List.getElem_cons_drop (List.getElem?_eq_some_iff.1 hq).1, (List.getElem?_eq_some_iff.1 hq).2]
  exact ⟨by rw [h.a, e]; rfl, by rw [h.b, e]; rfl⟩
theorem Mid.old {R : Nat → List Bool → List Bool × List Nat} {q : List (Option Nat)} {B1 B : List Bool} {o oo : List Nat} {k j : Nat} (h : Mid R q B1 o k B oo) (hq : q[k]? = some (some j)) (hj : B[j]? = some true) : Mid R q B1 o (k + 1) B oo := by
  have e : q.drop k = some j :: q.drop (k + 1) := by
    rw [← List.getElem_cons_drop (List.getElem?_eq_some_iff.1 hq).1, (List.getElem?_eq_some_iff.1 hq).2]
  have e2 : lvL R (some j :: q.drop (k + 1)) B = lvL R (q.drop (k + 1)) B := by
    rw [lvL, if_neg (by rw [hj]; simp)]
  exact ⟨by rw [h.a, e, e2], by rw [h.b, e, e2]⟩
theorem Mid.new {R : Nat → List Bool → List Bool × List Nat} {q : List (Option Nat)} {B1 B : List Bool} {o oo : List Nat} {k j : Nat} (h : Mid R q B1 o k B oo) (hq : q[k]? = some (some j)) (hj : B[j]? = some false) : Mid R q B1 o (k + 1) (R j B).1 (oo ++ (R j B).2) := by
  have e : q.drop k = some j :: q.drop (k + 1) := by
    rw [← List.getElem_cons_drop (List.getElem?_eq_some_iff.1 hq).1, (List.getElem?_eq_some_iff.1 hq).2]
  have e2 : lvL R (some j :: q.drop (k + 1)) B = ((lvL R (q.drop (k + 1)) (R j B).1).1, (R j B).2 ++ (lvL R (q.drop (k + 1)) (R j B).1).2) := by
    rw [lvL, if_pos hj]
  exact ⟨by rw [h.a, e, e2], by rw [h.b, e, e2, List.append_assoc]⟩

set_option maxRecDepth 20000 in
set_option maxHeartbeats 8000000 in
theorem leave_any (ao : Option Addr) (c : Nat) (G : List Bx) (w0 : World) (gI : Nat) (hx : BksAt w0 ao G) (hz : G.length ≤ 3518437208883) (hnl : ∀ y ∈ G, y.nx.length ≤ 17592186044416) :
    ∀ (f i : Nat) (B : List Bool) (o : List Nat) (vo : Value) (w : World), i < G.length → B.length = G.length → B[i]? = some false → fls B ≤ f → o.length + fls B ≤ G.length → LS w0 w gI G vo B o →
      Calls Try.prog 18 #[.slice ao G.length c, .int .i64 (i : Int), .slice (some ⟨gI, 0, none⟩) G.length G.length, vo] w fun e w' => ∃ v, e = .returned v ∧ LS w0 w' gI G v (lvF (suG G) f i B).1 (o ++ (lvF (suG G) f i B).2) := by
  obtain ⟨i0, hi0, hz0, hz1, hz2⟩ := info_parts infoJ
  have HX := hide hx
  have HNL := hide hnl
  clear hx hnl
  intro f
  induction f with
  | zero =>
    intro i B o vo w hi hl hb hf
    have := fls_set hb
    omega
  | succ f ih =>
    intro i B o vo w hi hl hb hf hcn hL
    have HIH := hide ih
    have hf1 := fls_set hb
    have hy := List.getElem?_eq_getElem hi
    have hym := unhide HNL _ (List.getElem_mem hi)
    have HSU := hide (suG_at hy)
    have HLV : Hid (lvF (suG G) (f + 1) i B = ((lvL (lvF (suG G) f) (suG G i) (B.set i true)).1, (lvL (lvF (suG G) f) (suG G i) (B.set i true)).2 ++ [i])) := hide rfl
    rw [unhide HSU] at HLV
    have hc := hL.into.cellB hi hb
    have hfz := hL.into.row.frozen i
    have ji : ((i : Nat) : Int) < ((G.length : Nat) : Int) := by omega
    have HL1 := hide (hL.mark hl hi)
    have hB1 := (unhide HL1).into.bel
    obtain ⟨b, off, rfl, hyb⟩ := (unhide HX).below hB1 i _ hy
    generalize G[i] = y at hy hym HSU HLV hyb
    obtain ⟨bb, oo, -, hyn⟩ := unhide HX i y hy
    have HYN := hide hyn.nxt
    have q2 := hyb.c2
    clear hyn
    obtain ⟨yf, yl, yo, yc, yn⟩ := y
    simp only at hym HLV HYN q2
    have hl1 : (B.set i true).length = G.length := by rw [List.length_set]; exact hl
    have HF1 : Hid (fls (B.set i true) + 1 = fls B) := hide hf1
    clear hyb hB1 hL ih hy HSU hl hb hf1
    go_enter Try.func18, Try.ntmps18
    go_upto_region 2 with fail
    generalize (w.setCell ⟨gI, i, none⟩ (.bool true)) = w1 at HL1 q2 ⊢
    clear hc hfz
    have hfB : fls (B.set i true) ≤ f := by have := unhide HF1; omega
    have hoB : o.length + fls (B.set i true) + 1 ≤ G.length := by have := unhide HF1; omega
    generalize B.set i true = B1 at HL1 hl1 HLV hfB hoB
    clear HF1 hf hcn
    go_wp2_with fail
    clear q2
    go_loopw [3, 21] (fun v k wr => ∃ (kk : Nat) (Bk : List Bool) (ok : List Nat), kk ≤ yn.length ∧ k = .int .i64 (kk : Int) ∧ Hid (LS w0 wr gI G v Bk ok) ∧ Hid (Mid (lvF (suG G) f) (yn.map (frI G)) B1 o kk Bk ok) ∧ Hid (Bk.length = G.length ∧ fls Bk ≤ f ∧ ok.length + fls Bk + 1 ≤ G.length)) (fun _ k _ => yn.length - (intOf k).toNat)
    case atStart => exact ⟨0, B1, o, by omega, rfl, HL1, hide ⟨by rw [List.drop_zero], by rw [List.drop_zero]⟩, hide ⟨hl1, hfB, hoB⟩⟩
    case round =>
      obtain ⟨k, Bk, ok, hk, rfl, HL, HM, HC⟩ := hrel
      by_cases hkl : k < yn.length
      · have j1 : ((k : Nat) : Int) < ((yn.length : Nat) : Int) := by omega
        have ha := List.getElem?_eq_getElem hkl
        generalize yn[k] = a at ha
        have hq : (yn.map (frI G))[k]? = some (frI G a) := by rw [List.getElem?_map, ha]; rfl
        obtain ⟨nb, no, rfl, hac⟩ := (unhide HYN).below (unhide HL).into.bel k a ha
        have HFr := hide (refFrom_any (some ⟨b, off, none⟩) c G a wr ((unhide HX).below (unhide HL).into.bel) (by omega))
        clear ha
        cases hfr : frI G a with
        | none =>
          rw [frZ_none hfr] at HFr
          have HM2 := hide ((unhide HM).none (by rw [hq, hfr]))
          clear hq hfr
          go_wp2_with fail
          refine (unhide HFr).mono ?_
          rintro e w2 ⟨rfl, hB2⟩
          have HL2 := hide ((unhide HL).below hB2)
          clear hB2 hac
          go_wp2
          go_roundw
          case rel => exact ⟨k + 1, Bk, ok, by omega, by go_num, HL2, HM2, HC⟩
          case measure => simp [intOf]; omega
        | some j =>
          rw [frZ_at hfr] at HFr
          obtain ⟨x, hxj, _⟩ := frI_some hfr
          have hjl : j < G.length := (List.getElem?_eq_some_iff.1 hxj).1
          have jj : ((j : Nat) : Int) < ((G.length : Nat) : Int) := by omega
          have jj0 : ((j : Nat) : Int) ≥ 0 := by omega
          have hbj := List.getElem?_eq_getElem (show j < Bk.length by have := (unhide HC).1; omega)
          generalize Bk[j]'(by have := (unhide HC).1; omega) = bj at hbj
          have HQ : Hid ((yn.map (frI G))[k]? = some (some j)) := hide (by rw [hq, hfr])
          clear hq hfr hxj
          go_wp2_with fail
          refine (unhide HFr).mono ?_
          rintro e w2 ⟨rfl, hB2⟩
          have HL2 := hide ((unhide HL).below hB2)
          have hcj := (unhide HL2).into.cellB hjl hbj
          have HBJ := hide hbj
          clear hB2 hac hbj
          cases bj
          · have HI := hide (unhide HIH j Bk ok u3 w2 hjl (unhide HC).1 (unhide HBJ) (unhide HC).2.1 (by have := (unhide HC).2.2; omega) (unhide HL2))
            have HM2 := hide ((unhide HM).new (unhide HQ) (unhide HBJ))
            have HC2 : Hid ((lvF (suG G) f j Bk).1.length = G.length ∧ fls (lvF (suG G) f j Bk).1 ≤ f ∧ (ok ++ (lvF (suG G) f j Bk).2).length + fls (lvF (suG G) f j Bk).1 + 1 ≤ G.length) := hide (by
              obtain ⟨h1, h2, h3⟩ := unhide HC
              have h4 := lvF_len (suG G) f j Bk
              have h5 := lvF_ct (suG G) f j Bk (unhide HBJ) h2
              rw [List.length_append]
              omega)
            go_wp2_with fail
            refine (unhide HI).mono ?_
            rintro e w3 ⟨v3, rfl, hL3⟩
            have HL3 := hide hL3
            clear hL3 hcj HL2
            go_wp2
            go_roundw
            case rel => exact ⟨k + 1, _, _, by omega, by go_num, HL3, HM2, HC2⟩
            case measure => simp [intOf]; omega
          · have HM2 := hide ((unhide HM).old (unhide HQ) (unhide HBJ))
            go_wp2
            go_roundw
            case rel => exact ⟨k + 1, Bk, ok, by omega, by go_num, HL2, HM2, HC⟩
            case measure => simp [intOf]; omega
      · have j1 : ¬ ((k : Nat) : Int) < ((yn.length : Nat) : Int) := by omega
        have hd : (yn.map (frI G)).drop k = [] := List.drop_eq_nil_iff.2 (by rw [List.length_map]; omega)
        have HA : Hid ((lvL (lvF (suG G) f) (yn.map (frI G)) B1).1 = Bk) := hide (by rw [(unhide HM).a, hd]; rfl)
        have HB : Hid (o ++ (lvL (lvF (suG G) f) (yn.map (frI G)) B1).2 = ok) := hide (by rw [(unhide HM).b, hd]; simp [lvL])
        have hol : ok.length + 1 ≤ G.length := by have := (unhide HC).2.2; omega
        have hal : Below wr.heap.size wr (wr.alloc (.cells #[.int .i64 ((i : Nat) : Int)] 3)) := (Below.refl _ _).alloc (Nat.le_refl _) _
        have HL2 := hide ((unhide HL).below hal)
        have hsz := (unhide HL).into.bel.size
        have hO7 := (unhide HL2).ord
        unfold OwnJ at hO7
        rw [jn_len] at hO7
        have HO7 := hide hO7
        clear hd HM hO7 hal
        go_wp2_with (at_builtin; refine wpList_append_own _ rfl _ _ 23 rfl w0.heap.size 3 i0 (.int .i64 0) 1 8 Try.underlying23 hi0 hz0 hz1 hz2 rfl (by decide) _ ok.length (jvals (jn ok)) rfl (unhide HO7) ⟨wr.heap.size, 0, none⟩ 1 1 [.int .i64 ((i : Nat) : Int)] rfl rfl (cell_one_newJ _ _ _) (by simp [Value.oneCell']) ?a3 ?a4 ?a5 ?_)
        case a3 => unfold maxLen; omega
        case a4 => omega
        case a5 => omega
        intro v8 w8 hO8 hG8 _
        have HL8 : Hid (LS w0 w8 gI G v8 Bk (ok ++ [i])) := hide ((unhide HL2).more (by
          unfold OwnJ
          rw [jn_len, jn_snoc, List.length_append]
          exact hO8) hG8)
        clear hO8 hG8
        go_wp2
        go_ret
        refine ⟨_, rfl, ?_⟩
        rw [unhide HLV]
        simp only
        rw [unhide HA, ← List.append_assoc, unhide HB]
        exact unhide HL8
/-- Those that were not come to. -/
def unm (B : List Bool) (k : Nat) : List Nat := (List.range k).filter (fun i => !(B.getD i false))
theorem unm_succ (B : List Bool) (k : Nat) : unm B (k + 1) = if B.getD k false = true then unm B k else unm B k ++ [k] := by
  unfold unm
  rw [List.range_succ, List.filter_append]
  cases h : B.getD k false
  · simp only [List.filter_cons, List.filter_nil, h]; simp
  · simp only [List.filter_cons, List.filter_nil, h]; simp
theorem unm_len (B : List Bool) (k : Nat) : (unm B k).length ≤ k := by
  unfold unm
  have := List.length_filter_le (fun i => !(B.getD i false)) (List.range k)
  simpa using this
def ordD (G : List Bx) : List Nat := if G.length = 0 then [] else (lvO G).2.reverse ++ unm (lvO G).1 G.length
theorem lvO_ct {G : List Bx} (h : 1 ≤ G.length) : (lvO G).2.length + fls (lvO G).1 = G.length := by
  have := lvF_ct (suG G) G.length 0 (List.replicate G.length false) (by rw [List.getElem?_replicate, if_pos (by omega)]) (by rw [fls_rep]; exact Nat.le_refl _)
  rw [fls_rep] at this
  exact this
theorem lvO_len (G : List Bx) : (lvO G).1.length = G.length := by
  have := (lvF_len (suG G) G.length 0 (List.replicate G.length false)).1
  rw [List.length_replicate] at this
  exact this
theorem lvO_in {G : List Bx} (h : 1 ≤ G.length) : ∀ j ∈ (lvO G).2, j < G.length := lvF_in G G.length 0 _ h
structure OS (w wr : World) (gI n : Nat) (B : List Bool) (v : Value) (l : List Nat) : Prop where
  ord : OwnJ wr w.heap.size v (jn l)
  into : wr.rowIs gI 4 n (bAt B)
  bel : Below w.heap.size w wr
theorem OS.below {w wr w' : World} {gI n : Nat} {B : List Bool} {v : Value} {l : List Nat} (h : OS w wr gI n B v l) (hb : Below wr.heap.size wr w') : OS w w' gI n B v l :=
  ⟨h.ord.below hb, h.into.of_block (hb.block _ h.into.lt), h.bel.trans (hb.mono h.bel.size)⟩
theorem OS.more {w wr w' : World} {gI n k : Nat} {B : List Bool} {v v' : Value} {l : List Nat} (h : OS w wr gI n B v l) (ho : w'.ownsRow w.heap.size 3 1 v' (l.length + 1) (jvals (jn l) ++ [.int .i64 (k : Int)])) (hg : wr.grownBy w' v.ownBlock) : OS w w' gI n B v' (l ++ [k]) := by
  refine ⟨?_, h.into.of_block (hg.block _ h.into.lt (fun e => ?_)), h.bel.grown hg h.bel.size (fun q e => (World.ownsRow.lt h.ord q e).1)⟩
  · unfold OwnJ
    rw [jn_len, jn_snoc, List.length_append]
    exact ho
  · obtain ⟨c1, g1⟩ := rowTyB h.ord gI e.symm
    obtain ⟨c2, g2, _⟩ := h.into
    rw [g1] at g2
    simp at g2
theorem OS.cell {w wr : World} {gI n k : Nat} {B : List Bool} {v : Value} {l : List Nat} (h : OS w wr gI n B v l) (hk : k < n) : wr.cell? ⟨gI, k, none⟩ = some (.bool (B.getD k false)) := h.into.cell hk

set_option maxRecDepth 20000 in
set_option maxHeartbeats 8000000 in
theorem Order_any (ao : Option Addr) (c : Nat) (G : List Bx) (w : World) (hx : BksAt w ao G) (hz : G.length ≤ 3518437208883) (hnl : ∀ y ∈ G, y.nx.length ≤ 17592186044416) (hbf : ∀ y ∈ G, -9223372036854775808 ≤ y.fr ∧ y.fr ≤ 9223372036854775807) (hbn : ∀ y ∈ G, ∀ a ∈ y.nx, -9223372036854775808 ≤ a ∧ a ≤ 9223372036854775807) :
    Calls Try.prog 7 #[.slice ao G.length c] w fun e w' => ∃ v, e = .returned v ∧ OwnJ w' w.heap.size v (jn (ordD G)) ∧ Below w.heap.size w w' := by
  obtain ⟨i0, hi, hz0, hz1, hz2⟩ := info_parts infoJ
  by_cases hg : G.length = 0
  · have hg0 : (((G.length : Nat) : Int) == 0) = true := by rw [hg]; rfl
    have HR : Hid (ordD G = []) := hide (by unfold ordD; rw [if_pos hg])
    clear hx hg
    go_enter Try.func7, Try.ntmps7
    go_wp2
    go_ret
    exact ⟨_, rfl, by rw [unhide HR]; exact OwnJ.nil _ _, Below.refl _ _⟩
  · have h1 : 1 ≤ G.length := by omega
    have hg0 : (((G.length : Nat) : Int) == 0) = false := beq_eq_false_iff_ne.2 (by omega)
    have HDF := hide (deepFirst_any ao c G w hx h1 hz hnl hbf hbn)
    have HR : Hid (ordD G = (lvO G).2.reverse ++ unm (lvO G).1 G.length) := hide (by unfold ordD; rw [if_neg hg])
    have hol : (lvO G).2.reverse.length ≤ G.length := by have := lvO_ct h1; rw [List.length_reverse]; omega
    clear hx hnl hbf hbn
    go_enter Try.func7, Try.ntmps7
    go_wp2_with fail
    refine (unhide HDF).mono ?_
    rintro e w1 ⟨v, gI, rfl, hO, hM⟩
    have HS : Hid (OS w w1 gI G.length (lvO G).1 v ((lvO G).2.reverse ++ unm (lvO G).1 0)) := hide ⟨by rw [show unm (lvO G).1 0 = [] from rfl, List.append_nil]; exact hO, hM.row, hM.bel⟩
    clear hO hM HDF hg hg0
    generalize (lvO G).2.reverse = o at HR HS hol
    generalize (lvO G).1 = B at HR HS
    go_wp2
    go_loopw [3, 17] (fun v i wr => ∃ k : Nat, k ≤ G.length ∧ i = .int .i64 (k : Int) ∧ Hid (OS w wr gI G.length B v (o ++ unm B k))) (fun _ i _ => G.length - (intOf i).toNat)
    case atStart => exact ⟨0, by omega, rfl, HS⟩
    case round =>
      obtain ⟨k, hk, rfl, HK⟩ := hrel
      by_cases hkl : k < G.length
      · have j1 : ((k : Nat) : Int) < ((G.length : Nat) : Int) := by omega
        have hc := (unhide HK).cell hkl
        obtain ⟨Lq, HLq⟩ : ∃ Lq, Hid (o ++ unm B k = Lq) := ⟨_, hide rfl⟩
        rw [unhide HLq] at HK
        have HU := hide (unm_succ B k)
        have hul := unm_len B k
        have hLl : Lq.length ≤ G.length + G.length := by rw [← unhide HLq, List.length_append]; omega
        cases hb : B.getD k false
        · rw [hb] at hc
          rw [hb] at HU
          have HU2 : Hid (unm B (k + 1) = unm B k ++ [k]) := hide ((unhide HU).trans (if_neg (by simp)))
          have hal : Below wr.heap.size wr (wr.alloc (.cells #[.int .i64 ((k : Nat) : Int)] 3)) := (Below.refl _ _).alloc (Nat.le_refl _) _
          have HK2 := hide ((unhide HK).below hal)
          have hsz := (unhide HK).bel.size
          have hO7 := (unhide HK2).ord
          unfold OwnJ at hO7
          rw [jn_len] at hO7
          have HO7 := hide hO7
          clear hO7 hal HU hb
          go_wp2_with (at_builtin; refine wpList_append_own _ rfl _ _ 23 rfl w.heap.size 3 i0 (.int .i64 0) 1 8 Try.underlying23 hi hz0 hz1 hz2 rfl (by decide) _ Lq.length (jvals (jn Lq)) rfl (unhide HO7) ⟨wr.heap.size, 0, none⟩ 1 1 [.int .i64 ((k : Nat) : Int)] rfl rfl (cell_one_newJ _ _ _) (by simp [Value.oneCell']) ?a3 ?a4 ?a5 ?_)
          case a3 => unfold maxLen; omega
          case a4 => omega
          case a5 => first | omega | (rw [World.size_alloc]; omega)
          intro v8 w8 hO8 hG8 _
          have HK8 : Hid (OS w w8 gI G.length B v8 (o ++ unm B (k + 1))) := hide (by rw [unhide HU2, ← List.append_assoc, unhide HLq]; exact (unhide HK2).more hO8 hG8)
          clear hO8 hG8
          go_wp2
          go_roundw
          case rel => exact ⟨k + 1, by omega, by go_num, HK8⟩
          case measure => simp [intOf]; omega
        · rw [hb] at hc
          rw [hb] at HU
          have HK8 : Hid (OS w wr gI G.length B u3 (o ++ unm B (k + 1))) := hide (by rw [(unhide HU).trans (if_pos rfl), unhide HLq]; exact unhide HK)
          clear HU hb
          go_wp2
          go_roundw
          case rel => exact ⟨k + 1, by omega, by go_num, HK8⟩
          case measure => simp [intOf]; omega
      · obtain rfl : k = G.length := by omega
        go_wp2
        go_ret
        exact ⟨_, rfl, by rw [unhide HR]; exact (unhide HK).ord, (unhide HK).bel⟩

set_option maxRecDepth 20000 in
set_option maxHeartbeats 8000000 in
theorem refOrder_any (ao : Option Addr) (c : Nat) (G : List Bx) (w : World) (hx : BksAt w ao G) (hz : G.length ≤ 3518437208883) (hnl : ∀ y ∈ G, y.nx.length ≤ 17592186044416) :
    Calls Try.prog 8 #[.slice ao G.length c] w fun e w' => ∃ v, e = .returned v ∧ OwnJ w' w.heap.size v (jn (ordD G)) ∧ Below w.heap.size w w' := by
  obtain ⟨i0, hi, hz0, hz1, hz2⟩ := info_parts infoJ
  have hmk := run_make_row' (P := Try.prog) 42 4 (.bool false) 1 Try.underlying42 infoBo rfl .i64 .i64 G.length (by omega) (by omega)
  by_cases hg : G.length = 0
  · have hg0 : (((G.length : Nat) : Int) == 0) = true := by rw [hg]; rfl
    have HR : Hid (ordD G = []) := hide (by unfold ordD; rw [if_pos hg])
    clear hx hg
    go_enter Try.func8, Try.ntmps8
    go_wp2
    go_ret
    exact ⟨_, rfl, by rw [unhide HR]; exact OwnJ.nil _ _, Below.refl _ _⟩
  · have h1 : 1 ≤ G.length := by omega
    have hg0 : (((G.length : Nat) : Int) == 0) = false := beq_eq_false_iff_ne.2 (by omega)
    have HM0 := hide (MR.made (Below.refl w.heap.size w) G.length)
    have HLV := hide (fun gI hL => leave_any ao c G w gI hx hz hnl G.length 0 (List.replicate G.length false) [] (.slice none 0 0) (w.alloc (.cells (madeCells #[.bool false] G.length) 4)) (by omega) (by simp) (by rw [List.getElem?_replicate, if_pos (by omega)]) (by rw [fls_rep]; exact Nat.le_refl _) (by rw [fls_rep]; simp) hL)
    have HLV2 := hide (unhide HLV w.heap.size ⟨OwnJ.nil _ _, unhide HM0⟩)
    have HR : Hid (ordD G = (lvO G).2.reverse ++ unm (lvO G).1 G.length) := hide (by unfold ordD; rw [if_neg hg])
    have hol : (lvO G).2.length ≤ G.length := by have := lvO_ct h1; omega
    clear hx hnl HLV HM0
    go_enter Try.func8, Try.ntmps8
    go_upto_region 4 with fail
    clear hmk
    generalize (w.alloc (.cells (madeCells #[.bool false] G.length) 4)) = w2 at HLV2 ⊢
    generalize hgI : w.heap.size = gI at HLV2 ⊢
    go_wp2_with fail
    refine (unhide HLV2).mono ?_
    rintro e w4 ⟨v, rfl, hL⟩
    rw [List.nil_append] at hL
    have hL : LS w w4 gI G v (lvO G).1 (lvO G).2 := hL
    obtain ⟨la, lc, rfl, hJ, _⟩ := hL.ord.at
    have HS : Hid (OS w4 w4 gI G.length (lvO G).1 (.slice none 0 0) ((lvO G).2.drop (lvO G).2.length).reverse) := hide ⟨by rw [List.drop_length]; exact OwnJ.nil _ _, hL.into.row, Below.refl _ _⟩
    have HJ := hide hJ
    have HB4 := hide hL.into.bel
    rw [jn_len]
    clear hL hJ HLV2 hg hg0 hgI
    generalize (lvO G).2 = o at HR HS hol HJ ⊢
    generalize (lvO G).1 = B at HR HS
    go_wp2
    go_loopw [5, 6] (fun v i wr => ∃ k : Nat, k ≤ o.length ∧ i = .int .i64 ((k : Int) - 1) ∧ Hid (OS w4 wr gI G.length B v (o.drop k).reverse)) (fun _ i _ => (intOf i + 1).toNat)
    case atStart => exact ⟨o.length, by omega, rfl, HS⟩
    case round =>
      obtain ⟨k, hk, rfl, HK⟩ := hrel
      by_cases hk0 : 0 < k
      · obtain ⟨m, rfl⟩ : ∃ m, k = m + 1 := ⟨k - 1, by omega⟩
        have j0 : ((m + 1 : Nat) : Int) - 1 = (m : Int) := by omega
        rw [j0]
        have j1 : ((m : Nat) : Int) < ((o.length : Nat) : Int) := by omega
        have j2 : ((m : Nat) : Int) ≥ 0 := by omega
        have ho := List.getElem?_eq_getElem (show m < o.length by omega)
        have HDr : Hid ((o.drop m).reverse = (o.drop (m + 1)).reverse ++ [o[m]]) := hide (by rw [← List.getElem_cons_drop (show m < o.length by omega), List.reverse_cons])
        generalize o[m]'(by omega) = x at ho HDr
        have hLl : (o.drop (m + 1)).reverse.length ≤ G.length := by rw [List.length_reverse, List.length_drop]; omega
        generalize (o.drop (m + 1)).reverse = Lq at HDr HK hLl
        obtain ⟨lb, lo, rfl, hlc⟩ := ((unhide HJ).below (unhide HK).bel) m ((x : Nat) : Int) (by unfold jn; rw [List.getElem?_map, ho]; rfl)
        have hal : Below wr.heap.size wr (wr.alloc (.cells #[.int .i64 ((x : Nat) : Int)] 3)) := (Below.refl _ _).alloc (Nat.le_refl _) _
        have HK2 := hide ((unhide HK).below hal)
        have hsz := (unhide HK).bel.size
        have hO7 := (unhide HK2).ord
        unfold OwnJ at hO7
        rw [jn_len] at hO7
        have HO7 := hide hO7
        clear hO7 hal ho
        go_wp2_with (at_builtin; refine wpList_append_own _ rfl _ _ 23 rfl w4.heap.size 3 i0 (.int .i64 0) 1 8 Try.underlying23 hi hz0 hz1 hz2 rfl (by decide) _ Lq.length (jvals (jn Lq)) rfl (unhide HO7) ⟨wr.heap.size, 0, none⟩ 1 1 [.int .i64 ((x : Nat) : Int)] rfl rfl (cell_one_newJ _ _ _) (by simp [Value.oneCell']) ?a3 ?a4 ?a5 ?_)
        case a3 => unfold maxLen; omega
        case a4 => omega
        case a5 => first | omega | (rw [World.size_alloc]; omega)
        intro v8 w8 hO8 hG8 _
        have HK8 : Hid (OS w4 w8 gI G.length B v8 (o.drop m).reverse) := hide (by rw [unhide HDr]; exact (unhide HK2).more hO8 hG8)
        clear hO8 hG8 hlc
        go_wp2
        go_roundw
        case rel => exact ⟨m, by omega, by first | rfl | go_num, HK8⟩
        case measure => simp [intOf]
      · obtain rfl : k = 0 := by omega
        have HS2 : Hid (OS w4 wr gI G.length B u5 (o.reverse ++ unm B 0)) := hide (by rw [show unm B 0 = [] from rfl, List.append_nil]; exact unhide HK)
        clear HK HS
        have jz : ((0 : Nat) : Int) - 1 = -1 := rfl
        rw [jz]
        clear jz
        go_wp2
        go_loopw [5, 33] (fun v i wr => ∃ k : Nat, k ≤ G.length ∧ i = .int .i64 (k : Int) ∧ Hid (OS w4 wr gI G.length B v (o.reverse ++ unm B k))) (fun _ i _ => G.length - (intOf i).toNat)
        case atStart => exact ⟨0, by omega, rfl, HS2⟩
        case round =>
          obtain ⟨k, hk, rfl, HK⟩ := hrel
          by_cases hkl : k < G.length
          · have j1 : ((k : Nat) : Int) < ((G.length : Nat) : Int) := by omega
            have hc := (unhide HK).cell hkl
            obtain ⟨Lq, HLq⟩ : ∃ Lq, Hid (o.reverse ++ unm B k = Lq) := ⟨_, hide rfl⟩
            rw [unhide HLq] at HK
            have HU := hide (unm_succ B k)
            have hul := unm_len B k
            have hLl : Lq.length ≤ G.length + G.length := by rw [← unhide HLq, List.length_append, List.length_reverse]; omega
            cases hb : B.getD k false
            · rw [hb] at hc
              rw [hb] at HU
              have HU2 : Hid (unm B (k + 1) = unm B k ++ [k]) := hide ((unhide HU).trans (if_neg (by simp)))
              have hal : Below wr.heap.size wr (wr.alloc (.cells #[.int .i64 ((k : Nat) : Int)] 3)) := (Below.refl _ _).alloc (Nat.le_refl _) _
              have HK2 := hide ((unhide HK).below hal)
              have hsz := (unhide HK).bel.size
              have hO7 := (unhide HK2).ord
              unfold OwnJ at hO7
              rw [jn_len] at hO7
              have HO7 := hide hO7
              clear hO7 hal HU hb
              go_wp2_with (at_builtin; refine wpList_append_own _ rfl _ _ 23 rfl w4.heap.size 3 i0 (.int .i64 0) 1 8 Try.underlying23 hi hz0 hz1 hz2 rfl (by decide) _ Lq.length (jvals (jn Lq)) rfl (unhide HO7) ⟨wr.heap.size, 0, none⟩ 1 1 [.int .i64 ((k : Nat) : Int)] rfl rfl (cell_one_newJ _ _ _) (by simp [Value.oneCell']) ?a3 ?a4 ?a5 ?_)
              case a3 => unfold maxLen; omega
              case a4 => omega
              case a5 => first | omega | (rw [World.size_alloc]; omega)
              intro v8 w8 hO8 hG8 _
              have HK8 : Hid (OS w4 w8 gI G.length B v8 (o.reverse ++ unm B (k + 1))) := hide (by rw [unhide HU2, ← List.append_assoc, unhide HLq]; exact (unhide HK2).more hO8 hG8)
              clear hO8 hG8
              go_wp2
              go_roundw
              case rel => exact ⟨k + 1, by omega, by go_num, HK8⟩
              case measure => simp [intOf]; omega
            · rw [hb] at hc
              rw [hb] at HU
              have HK8 : Hid (OS w4 wr gI G.length B u5 (o.reverse ++ unm B (k + 1))) := hide (by rw [(unhide HU).trans (if_pos rfl), unhide HLq]; exact unhide HK)
              clear HU hb
              go_wp2
              go_roundw
              case rel => exact ⟨k + 1, by omega, by go_num, HK8⟩
              case measure => simp [intOf]; omega
          · obtain rfl : k = G.length := by omega
            have hb4 := unhide HB4
            go_wp2
            go_ret
            exact ⟨_, rfl, by rw [unhide HR]; exact ownJ_mono (unhide HK).ord hb4.size, hb4.trans ((unhide HK).bel.mono hb4.size)⟩
end Go.Proofs.Ytdpfinnclnapbaa
