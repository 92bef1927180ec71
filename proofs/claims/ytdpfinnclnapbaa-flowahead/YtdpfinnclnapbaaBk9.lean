/-
  provisoref05.Blocks: what the plain function says, in rows of its own.
-/
import Derived.Test.YtdpfinnclnapbaaBk7
import Derived.Test.YtdpfinnclnapbaaBk5
import Derived.Test.YtdpfinnclnapbaaBk6
import Derived.Test.YtdpfinnclnapbaaRc3
import Derived.Test.YtdpfinnclnapbaaMr
import Derived.Deep.DeepCutAuto
import Derived.Deep.DeepAppendWide
namespace Go.Proofs.Ytdpfinnclnapbaa
open Go.RowKit Go.Maps

/-- The marks, while they are laid. -/
def mkAt (l : List Ix) (k j : Nat) : Value := .bool ((mkL l k).getD j false)
theorem stp_get {l : List Ix} {k j : Nat} {x : Ix} (hx : l[k]? = some x) (hj : j < l.length) :
    (mkL l (k + 1)).getD j false = ((decide (k = 0 ∧ j = 0)) || (decide (prtD x.op = true ∧ k + 1 < l.length ∧ j = k + 1)) || (decide (jmpD x.op = true ∧ pI l x.a = some j)) || (mkL l k).getD j false) := by
  have hl1 : j < (mkL l k).length := by rw [mkL_len]; exact hj
  have hl2 : j < (mkL l (k + 1)).length := by rw [mkL_len]; exact hj
  have key := tr_stp (B := mkL l k) (j := j) hx hl1
  unfold Tr at key
  rw [show stpM l k (mkL l k) = mkL l (k + 1) from rfl] at key
  rw [List.getD_eq_getElem?_getD, List.getD_eq_getElem?_getD]
  rw [List.getElem?_eq_getElem hl1, List.getElem?_eq_getElem hl2] at key ⊢
  simp only [Option.getD_some, Option.some.injEq] at key ⊢
  rw [Bool.eq_iff_iff, key]
  simp only [Bool.or_eq_true, decide_eq_true_eq, or_assoc]

/-- While the reference lays out blocks. -/
structure ORun (w5 wr : World) (v : Value) (M : List Bx) : Prop where
  own : OwnK wr w5.heap.size v M
  nxs : ∀ y ∈ M, NxOwn wr w5.heap.size y
  bel : Below w5.heap.size w5 wr
theorem ORun.below {w5 wr w' : World} {v : Value} {M : List Bx} (h : ORun w5 wr v M) (hb : Below wr.heap.size wr w') : ORun w5 w' v M :=
  ⟨rowBelowJ h.own hb, fun y hy => (h.nxs y hy).below hb, h.bel.trans (hb.mono h.bel.size)⟩
theorem kv_set (A : List Bx) (z : Bx) (q : Int) (u : Value) (z' : Bx) (hz : kcells z' = [.int .i64 z.fr, .int .i64 q, u]) : ((kvals (A ++ [z])).set (A.length * 3 + 1) (.int .i64 q)).set (A.length * 3 + 2) u = kvals (A ++ [z']) := by
  rw [kvals_snoc, kvals_snoc, hz, ← kvals_length A, List.set_append_right _ _ (by omega), List.set_append_right _ _ (by omega)]
  congr 1
  rw [show (kvals A).length + 1 - (kvals A).length = 1 from by omega, show (kvals A).length + 2 - (kvals A).length = 2 from by omega]
  rfl
theorem ORun.last {w5 wr : World} {gb cap : Nat} {A : List Bx} {z : Bx} (h : ORun w5 wr (.slice (some ⟨gb, 0, none⟩) (A.length + 1) cap) (A ++ [z])) (q : Int) (z' : Bx) (hz : z' = ⟨z.fr, q, none, 0, []⟩) : ORun w5 ((wr.setCell ⟨gb, A.length * 3 + 1, none⟩ (.int .i64 q)).setCell ⟨gb, A.length * 3 + 2, none⟩ (.slice none 0 0)) (.slice (some ⟨gb, 0, none⟩) (A.length + 1) cap) (A ++ [z']) := by
  have ho := h.own
  unfold OwnK at ho
  rw [List.length_append, List.length_singleton] at ho
  have h1 := World.ownsRow.stored ho (A.length * 3 + 1) (.int .i64 q)
  have h2 := World.ownsRow.stored h1.1 (A.length * 3 + 2) (.slice none 0 0)
  have hg := grown_two h1.2 h2.2
  rw [kv_set A z q (.slice none 0 0) z' (by rw [hz]; rfl)] at h2
  refine ⟨?_, ?_, ?_⟩
  · unfold OwnK
    rw [List.length_append, List.length_singleton]
    exact h2.1
  · intro y hy
    rcases List.mem_append.1 hy with hy | hy
    · exact (h.nxs y (List.mem_append_left _ hy)).grown h.own hg
    · simp at hy
      rw [hy, hz]
      exact OwnJ.nil _ _
  · exact h.bel.grown hg h.bel.size (fun k e => by injection e with e; rw [← e]; exact (World.ownsRow.lt ho gb rfl).1)
theorem ORun.slice {w5 wr : World} {v : Value} {A : List Bx} {z : Bx} (h : ORun w5 wr v (A ++ [z])) : ∃ gb cap, v = .slice (some ⟨gb, 0, none⟩) (A.length + 1) cap := by
  rcases h.own.2 with ⟨_, h2⟩ | ⟨g, cap, cur, hv, _⟩
  · simp at h2
  · exact ⟨g, cap, by rw [hv]; simp⟩
theorem out_ne {l : List Ix} {k : Nat} (h0 : 0 < k) (hk : k ≤ l.length) : outD l k ≠ [] := by
  rw [out_el k hk]
  have := List.length_pos_iff.2 (ldN_ne (l := l) (by omega) k h0)
  intro e
  have := congrArg List.length e
  simp at this
  simp [this] at *
/-- While a block's ways on are laid out. -/
structure IRun (w5 w8 wr : World) (gb cap : Nat) (A : List Bx) (fr q : Int) (no : Option Addr) (nc : Nat) (N : List Int) : Prop where
  grw : w8.grownBy wr (some gb)
  own : wr.ownsRow w5.heap.size 25 3 (.slice (some ⟨gb, 0, none⟩) (A.length + 1) cap) (A.length + 1) (kvals (A ++ [⟨fr, q, no, nc, N⟩]))
  nx : OwnJ wr w8.heap.size (.slice no N.length nc) N
theorem IRun.cell {w5 w8 wr : World} {gb cap : Nat} {A : List Bx} {fr q : Int} {no : Option Addr} {nc : Nat} {N : List Int} (h : IRun w5 w8 wr gb cap A fr q no nc N) : wr.cell? ⟨gb, A.length * 3 + 2, none⟩ = some (.slice no N.length nc) := by
  rw [World.ownsRow.cellAt h.own (A.length * 3 + 2) (by omega)]
  exact (kvals_get (i := A.length) (f := ⟨fr, q, no, nc, N⟩) (by simp)).2.2
theorem IRun.done {w5 w8 wr : World} {gb cap : Nat} {A : List Bx} {z : Bx} {fr q : Int} {no : Option Addr} {nc : Nat} {N : List Int} (h : IRun w5 w8 wr gb cap A fr q no nc N) (h8 : ORun w5 w8 (.slice (some ⟨gb, 0, none⟩) (A.length + 1) cap) (A ++ [z])) : ORun w5 wr (.slice (some ⟨gb, 0, none⟩) (A.length + 1) cap) (A ++ [⟨fr, q, no, nc, N⟩]) := by
  refine ⟨?_, ?_, ?_⟩
  · unfold OwnK
    rw [List.length_append, List.length_singleton]
    exact h.own
  · intro y hy
    rcases List.mem_append.1 hy with hy | hy
    · exact (h8.nxs y (List.mem_append_left _ hy)).grown h8.own h.grw
    · simp at hy
      rw [hy]
      exact ownJ_mono h.nx h8.bel.size
  · exact h8.bel.grown h.grw h8.bel.size (fun k e => by injection e with e; rw [← e]; exact (World.ownsRow.lt h8.own gb rfl).1)
theorem IRun.below {w5 w8 wr w' : World} {gb cap : Nat} {A : List Bx} {fr q : Int} {no : Option Addr} {nc : Nat} {N : List Int} (h : IRun w5 w8 wr gb cap A fr q no nc N) (hb : Below wr.heap.size wr w') : IRun w5 w8 w' gb cap A fr q no nc N :=
  ⟨⟨hb.os.trans h.grw.os, hb.tape.trans h.grw.tape, hb.output.trans h.grw.output, Nat.le_trans h.grw.size hb.size, fun k hk hn => (hb.block k (Nat.lt_of_lt_of_le hk h.grw.size)).trans (h.grw.block k hk hn)⟩, rowBelowJ h.own hb, h.nx.below hb⟩
theorem IRun.more {w5 w8 wr w9 : World} {gb cap : Nat} {A : List Bx} {fr q a : Int} {no : Option Addr} {nc : Nat} {N : List Int} {obj : Obj} {na : Option Addr} {ncap : Nat} (h : IRun w5 w8 wr gb cap A fr q no nc N) (hgb : gb < w8.heap.size) (hown : w9.ownsRow w8.heap.size 3 1 (.slice na (N.length + 1) ncap) (N.length + 1) (jvals N ++ [.int .i64 a])) (hg : (wr.alloc obj).grownBy w9 (Value.slice no N.length nc).ownBlock) : IRun w5 w8 (w9.setCell ⟨gb, A.length * 3 + 2, none⟩ (.slice na (N.length + 1) ncap)) gb cap A fr q na ncap (N ++ [a]) := by
  have hb : Below wr.heap.size wr (wr.alloc obj) := (Below.refl _ _).alloc (Nat.le_refl _) _
  have h1 := h.below hb
  have hne : ∀ g, some g = (Value.slice no N.length nc).ownBlock → w8.heap.size ≤ g := fun g e => (World.ownsRow.lt h.nx g e.symm).1
  have ho9 := rows_grownB h1.own hg (fun g e e2 => by have e' : gb = g := by simpa [Value.ownBlock] using e
                                                      have := hne g e2.symm
                                                      omega)
  have hst := World.ownsRow.stored ho9 (A.length * 3 + 2) (.slice na (N.length + 1) ncap)
  refine ⟨?_, ?_, ?_⟩
  · have g1 : w8.grownBy w9 (some gb) := ⟨hg.os.trans h1.grw.os, hg.tape.trans h1.grw.tape, hg.output.trans h1.grw.output, Nat.le_trans h1.grw.size hg.size, fun k hk hn => (hg.block k (Nat.lt_of_lt_of_le hk h1.grw.size) (fun e => by have := hne k e; omega)).trans (h1.grw.block k hk hn)⟩
    exact grown_two g1 hst.2
  · have e : (kvals (A ++ [(⟨fr, q, no, nc, N⟩ : Bx)])).set (A.length * 3 + 2) (.slice na (N.length + 1) ncap) = kvals (A ++ [⟨fr, q, na, ncap, N ++ [a]⟩]) := by
      rw [kvals_snoc, kvals_snoc, ← kvals_length A, List.set_append_right _ _ (by omega), show (kvals A).length + 2 - (kvals A).length = 2 from by omega]
      simp [kcells]
    rw [← e]
    exact hst.1
  · unfold OwnJ
    rw [List.length_append, List.length_singleton, show jvals (N ++ [a]) = jvals N ++ [.int .i64 a] from by unfold jvals; simp]
    exact rows_grownB hown hst.2 (fun g e e2 => by injection e2 with e2; have := (World.ownsRow.lt hown g e).1; omega)

set_option maxRecDepth 20000 in
set_option maxHeartbeats 8000000 in
theorem refBlocks_any (ao : Option Addr) (c : Nat) (l : List Ix) (w : World) (hx : XsAt w ao l) (hz : l.length ≤ 4398046511104) :
    Calls Try.prog 11 #[.slice ao l.length c] w fun e w' => ∃ v M, e = .returned v ∧ OwnK w' w.heap.size v M ∧ (∀ y ∈ M, NxOwn w' w.heap.size y) ∧ M.map Bx.pl = bkD l ∧ Below w.heap.size w w' := by
  obtain ⟨i0, hi, hz0, hz1, hz2⟩ := info_parts infoBk
  have hmk := run_make_row' (P := Try.prog) 42 4 (.bool false) 1 Try.underlying42 infoBo rfl .i64 .i64 l.length (by omega) (by omega)
  have HX := hide hx
  clear hx
  go_enter Try.func11, Try.ntmps11
  go_wp2
  go_loopw [17] (fun i wr => ∃ k : Nat, k ≤ l.length ∧ i = .int .i64 (k : Int) ∧ Hid (rsK l k) ∧ Hid (Below w.heap.size w wr)) (fun i _ => l.length - (intOf i).toNat)
  case atStart => exact ⟨0, by omega, rfl, hide (fun i x y h => by omega), hide (Below.refl _ _)⟩
  case round =>
    obtain ⟨k, hk, rfl, HK, HB⟩ := hrel
    by_cases hlt : k < l.length
    · have j1 : ((k : Nat) : Int) < ((l.length : Nat) : Int) := by omega
      by_cases hk0 : k = 0
      · subst hk0
        have HN : Hid (rsK l 1) := hide (fun i a b' hi => by omega)
        go_wp2
        go_quiet (fail)
        go_wp2
        go_roundw
        case rel => exact ⟨1, by omega, by go_num, HN, hide (belowD (unhide HB) _)⟩
        case measure => simp [intOf]; omega
      obtain ⟨m, rfl⟩ : ∃ m, k = m + 1 := ⟨k - 1, by omega⟩
      have j0 : ((m + 1 : Nat) : Int) > 0 := by omega
      have j2 : ((m + 1 : Nat) : Int) - 1 = ((m : Nat) : Int) := by omega
      have j3 : ((m : Nat) : Int) < ((l.length : Nat) : Int) := by omega
      have hx := List.getElem?_eq_getElem hlt
      have hlt2 : m < l.length := by omega
      have hy := List.getElem?_eq_getElem hlt2
      obtain ⟨b, off, rfl, hxa⟩ := (unhide HX).below (unhide HB) (m + 1) _ hx
      obtain ⟨b', off', e, hya⟩ := (unhide HX).below (unhide HB) m _ hy
      injection e with e
      injection e with e1 e2
      subst e1 e2
      have c0 := hxa.c0
      have d0 := hya.c0
      have HXX := hide hx
      have HYY := hide hy
      generalize l[m + 1] = x at c0 HXX
      generalize l[m] = y at d0 HYY
      have HI : Hid (rsP l → y.p < x.p) := hide (fun h => h m y x (unhide HYY) (unhide HXX))
      have HN : Hid (y.p < x.p → rsK l (m + 1 + 1)) := hide (fun h i a b' hi ha hb => by
        by_cases e : i = m
        · subst e
          rw [unhide HYY] at ha
          rw [unhide HXX] at hb
          injection ha with ha
          injection hb with hb
          subst ha hb
          exact h
        · exact unhide HK i a b' (by omega) ha hb)
      clear hx hy hxa hya HXX HYY hk0
      by_cases hp : x.p ≤ y.p
      · have hd : decide (x.p ≤ y.p) = true := decide_eq_true hp
        have HR : Hid (bkD l = []) := hide (by
          unfold bkD
          rw [if_neg (fun h => by have := unhide HI ((rsB_iff l).1 h); omega)])
        go_wp2
        go_quiet (fail)
        go_wp2
        go_ret
        exact ⟨_, [], rfl, World.ownsRow_nil _ _ _ _, fun y hy => by simp at hy, (unhide HR).symm, belowD (unhide HB) _⟩
      · have hd : decide (x.p ≤ y.p) = false := decide_eq_false hp
        have HN2 := hide (unhide HN (by omega))
        go_wp2
        go_quiet (fail)
        go_wp2
        go_roundw
        case rel => exact ⟨m + 1 + 1, by omega, by go_num, HN2, hide (belowD (unhide HB) _)⟩
        case measure => simp [intOf]; omega
    have j1 : ¬ ((k : Nat) : Int) < ((l.length : Nat) : Int) := by omega
    have HRS : Hid (rsB l = true) := hide ((rsB_iff l).2 (fun i x y hx hy => unhide HK i x y (by have := (List.getElem?_eq_some_iff.1 hy).1; omega) hx hy))
    have hal : Below wr.heap.size wr (wr.alloc (.cells (madeCells #[.bool false] l.length) 4)) := (Below.refl _ _).alloc (Nat.le_refl _) _
    have HR : Hid (MR w (wr.alloc (.cells (madeCells #[.bool false] l.length) 4)) wr.heap.size l.length (mkAt l 0)) := hide ⟨(World.rowIs_made wr (.bool false) l.length 4).congr (fun j hj => by unfold mkAt mkL; rw [List.getD_eq_getElem?_getD, List.getElem?_replicate, if_pos hj]; rfl), (unhide HB).size, (unhide HB).trans (hal.mono (unhide HB).size)⟩
    clear hal HK
    go_upto_region 8 with fail
    generalize (wr.alloc (.cells (madeCells #[.bool false] l.length) 4)) = w1 at HR ⊢
    generalize wr.heap.size = g at HR ⊢
    clear HB hk hmk hlt j1
    go_wp2
    go_loopw [42] (fun i wr => ∃ k : Nat, k ≤ l.length ∧ i = .int .i64 (k : Int) ∧ Hid (MR w wr g l.length (mkAt l k))) (fun i _ => l.length - (intOf i).toNat)
    case atStart => exact ⟨0, by omega, rfl, HR⟩
    case round =>
      obtain ⟨k, hk, rfl, HM⟩ := hrel
      by_cases hlt : k < l.length
      · have j1 : ((k : Nat) : Int) < ((l.length : Nat) : Int) := by omega
        have hx := List.getElem?_eq_getElem hlt
        obtain ⟨b, off, rfl, hxa⟩ := (unhide HX).below (unhide HM).bel k _ hx
        have HXX := hide hx
        generalize l[k] = x at hxa HXX
        obtain ⟨c0, c1, c2, c3, ho⟩ := hxa
        have HPL := hide (fun W (hW : Below w.heap.size w W) => Place2_any (some ⟨b, off, none⟩) c l x.a W ((unhide HX).below hW) (by omega))
        have HST := hide (fun j (hj : j < l.length) => stp_get (unhide HXX) hj)
        have HJ := hide (refJumps_any x.op)
        have HE := hide (refEnds_any x.op)
        rw [show (decide (x.op = 19) || decide (x.op = 20)) = jmpD x.op from rfl] at HJ
        rw [show (decide (x.op = 19) || decide (x.op = 22) || decide (x.op = 32)) = endD x.op from rfl] at HE
        have hal : Below wr.heap.size wr (wr.alloc (.cells #[.int .i64 x.p, .int .u8 (x.op : Int), .int .i64 x.a, .int .i64 x.b] 47)) := (Below.refl _ _).alloc (Nat.le_refl _) _
        have I1 : Hid (IAt (wr.alloc (.cells #[.int .i64 x.p, .int .u8 (x.op : Int), .int .i64 x.a, .int .i64 x.b] 47)) wr.heap.size x.p x.op x.a x.b) := hide (heap_alloc_new wr _)
        have HM2 := hide ((unhide HM).below hal)
        have hgi : g < wr.heap.size := (unhide HM).row.lt
        clear hx hal
        go_upto_region 11 with fail
        generalize (wr.alloc (.cells #[.int .i64 x.p, .int .u8 (x.op : Int), .int .i64 x.a, .int .i64 x.b] 47)) = w2 at I1 HM2 ⊢
        generalize wr.heap.size = gi at I1 hgi ⊢
        clear c0 c1 c2 c3 HM
        obtain ⟨F, HF⟩ : ∃ F, Hid (mkAt l k = F) := ⟨_, hide rfl⟩
        rw [unhide HF] at HM2
        go_upto_if 48 with fail
        go_cut [] (fun wx => Hid (MR w wx g l.length (fun i => if k = 0 ∧ i = 0 then .bool true else F i)) ∧ Hid (IAt wx gi x.p x.op x.a x.b))
        case first =>
          by_cases hk0 : k = 0
          · subst hk0
            have hc := (unhide HM2).row.cell hlt
            have hf := (unhide HM2).row.frozen 0
            go_wp2_with fail
            go_meet
            exact ⟨hide (((unhide HM2).set 0).congr (fun j _ => by simp only [true_and])), hide ((Below.heap_setCell w2 ⟨g, 0, none⟩ (.bool true) gi (by simp; omega)).trans (unhide I1))⟩
          · have b0 : (((k : Nat) : Int) == 0) = false := by simp; omega
            go_wp2_with fail
            go_meet
            exact ⟨hide ((unhide HM2).congr (fun j _ => by simp [hk0])), I1⟩
        case rest =>
          obtain ⟨HM3, I3⟩ := hcut
          clear HM2 I1
          have d1 := (unhide I3).c.1
          have d2 := (unhide I3).c.2.1
          go_upto_region 13 with fail
          go_quiet (first | (go_at_call 21; with_reducible exact Calls.quiet_of_same (unhide HJ _)) | (go_at_call 22; with_reducible exact Calls.quiet_of_same (unhide HE _)))
          have HM4 := hide ((unhide HM3).below (belowD (Below.refl _ _) nq))
          have I4 : Hid (IAt (wc.drewN nq) gi x.p x.op x.a x.b) := hide (unhide I3)
          clear HM3 I3 d1 d2 HJ HE
          go_upto_region 14 with fail
          generalize wc.drewN nq = w3 at HM4 I4 ⊢
          go_cut [7, 8, 68] (fun a7 a8 u wx => a7 = .bool (jmpD x.op) ∧ a8 = .bool (endD x.op) ∧ u = .bool (prtD x.op && decide (k + 1 < l.length)) ∧ wx = w3)
          case first =>
            obtain ⟨J, HJJ⟩ : ∃ J, Hid (jmpD x.op = J) := ⟨_, hide rfl⟩
            obtain ⟨E, HEE⟩ : ∃ E, Hid (endD x.op = E) := ⟨_, hide rfl⟩
            have HP : Hid (prtD x.op = (J || E)) := hide (by unfold prtD; rw [unhide HJJ, unhide HEE])
            rw [unhide HJJ, unhide HEE]
            by_cases hn : k + 1 < l.length
            · have j5 : ((k : Nat) : Int) + 1 < ((l.length : Nat) : Int) := by omega
              cases J <;> cases E
              all_goals (
                go_wp2_with fail
                go_meet
                exact ⟨by rw [unhide HJJ], by rw [unhide HEE], by rw [unhide HP, decide_eq_true hn]; rfl, rfl⟩)
            · have j5 : ¬ ((k : Nat) : Int) + 1 < ((l.length : Nat) : Int) := by omega
              cases J <;> cases E
              all_goals (
                go_wp2_with fail
                go_meet
                exact ⟨by rw [unhide HJJ], by rw [unhide HEE], by rw [decide_eq_false hn, Bool.and_false], rfl⟩)
          case rest =>
            obtain ⟨rfl, rfl, rfl, rfl⟩ := hcut
            go_upto_if 68 with fail
            go_cut [] (fun wx => Hid (MR w wx g l.length (fun i => if prtD x.op = true ∧ k + 1 < l.length ∧ i = k + 1 then .bool true else if k = 0 ∧ i = 0 then .bool true else F i)) ∧ Hid (IAt wx gi x.p x.op x.a x.b))
            case first =>
              cases hq : (prtD x.op && decide (k + 1 < l.length))
              · have hq2 : ¬ (prtD x.op = true ∧ k + 1 < l.length) := fun h => by rw [h.1, decide_eq_true h.2] at hq; cases hq
                go_wp2_with fail
                go_meet
                exact ⟨hide ((unhide HM4).congr (fun j _ => (if_neg (fun h => hq2 ⟨h.1, h.2.1⟩)).symm)), I4⟩
              · have hq2 : prtD x.op = true ∧ k + 1 < l.length := by simpa using hq
                have hn := hq2.2
                have j5 : ((k : Nat) : Int) + 1 < ((l.length : Nat) : Int) := by omega
                have hc := (unhide HM4).row.cell hn
                have hf := (unhide HM4).row.frozen (k + 1)
                have HP := hide hq2.1
                clear hq hq2
                go_wp2_with fail
                go_meet
                exact ⟨hide (((unhide HM4).set (k + 1)).congr (fun j _ => by simp only [unhide HP, hn, true_and])), hide ((Below.heap_setCell _ ⟨g, k + 1, none⟩ (.bool true) gi (by simp; omega)).trans (unhide I4))⟩
            case rest =>
              obtain ⟨HM5, I5⟩ := hcut
              clear HM4 I4
              have d2 := (unhide I5).c.2.1
              go_upto_region 17 with (go_at_call 23; refine (unhide HPL _ (unhide HM5).bel).mono ?_; rintro e w6 ⟨rfl, hB6⟩)
              have HM6 := hide ((unhide HM5).below hB6)
              clear HM5 I5 hB6 d2
              go_cut [7, 81] (fun a7 u wx => a7 = .bool (jmpD x.op) ∧ u = .bool (jmpD x.op && hasP l x.a) ∧ wx = w6)
              case first =>
                obtain ⟨J, HJJ⟩ : ∃ J, Hid (jmpD x.op = J) := ⟨_, hide rfl⟩
                rw [unhide HJJ]
                cases hh : hasP l x.a
                · have hpl := pl_none hh
                  have j6 : ¬ plD l x.a ≥ 0 := by omega
                  have HH := hide hh
                  clear hh hpl
                  cases J
                  all_goals (
                    go_wp2_with fail
                    go_meet
                    exact ⟨by rw [unhide HJJ], by rw [unhide HJJ, unhide HH]; rfl, rfl⟩)
                · obtain ⟨i, _, hpl, _⟩ := pl_some hh
                  have j6 : plD l x.a ≥ 0 := by rw [hpl]; omega
                  have HH := hide hh
                  clear hh hpl
                  cases J
                  all_goals (
                    go_wp2_with fail
                    go_meet
                    exact ⟨by rw [unhide HJJ], by rw [unhide HJJ, unhide HH]; rfl, rfl⟩)
              case rest =>
                obtain ⟨rfl, rfl, rfl⟩ := hcut
                go_upto_if 81 with fail
                cases hq : (jmpD x.op && hasP l x.a)
                · have hq2 : ∀ j, ¬ (jmpD x.op = true ∧ pI l x.a = some j) := fun j h => by
                    have h1 : hasP l x.a = true := by rw [pI_has, h.2]; rfl
                    rw [h.1, h1] at hq
                    cases hq
                  have HM7 := hide ((unhide HM6).congr (G := mkAt l (k + 1)) (fun j hj => by
                    unfold mkAt
                    rw [unhide HST j hj, ← unhide HF]
                    rw [show decide (jmpD x.op = true ∧ pI l x.a = some j) = false from decide_eq_false (hq2 j)]
                    by_cases h1 : prtD x.op = true ∧ k + 1 < l.length ∧ j = k + 1
                    · rw [if_pos h1, decide_eq_true h1]; simp
                    · rw [if_neg h1, decide_eq_false h1]
                      by_cases h2 : k = 0 ∧ j = 0
                      · rw [if_pos h2, decide_eq_true h2]; simp
                      · rw [if_neg h2, decide_eq_false h2]; simp [mkAt]))
                  go_wp2
                  go_roundw
                  case rel => exact ⟨k + 1, by omega, by go_num, HM7⟩
                  case measure => simp [intOf]; omega
                · have hq2 : jmpD x.op = true ∧ hasP l x.a = true := by simpa using hq
                  obtain ⟨i, hpi, hpl, hil⟩ := pl_some hq2.2
                  have hc := (unhide HM6).row.cell hil
                  have hf := (unhide HM6).row.frozen i
                  have ji : ((i : Nat) : Int) < ((l.length : Nat) : Int) := by omega
                  have HM7 := hide (((unhide HM6).set i).congr (G := mkAt l (k + 1)) (fun j hj => by
                    unfold mkAt
                    rw [unhide HST j hj, ← unhide HF]
                    by_cases h0 : j = i
                    · rw [if_pos h0, show decide (jmpD x.op = true ∧ pI l x.a = some j) = true from decide_eq_true ⟨hq2.1, by rw [h0]; exact hpi⟩]; simp
                    · rw [if_neg h0, show decide (jmpD x.op = true ∧ pI l x.a = some j) = false from decide_eq_false (fun h => h0 (by rw [hpi] at h; have := h.2; injection this with this; exact this.symm))]
                      by_cases h1 : prtD x.op = true ∧ k + 1 < l.length ∧ j = k + 1
                      · rw [if_pos h1, decide_eq_true h1]; simp
                      · rw [if_neg h1, decide_eq_false h1]
                        by_cases h2 : k = 0 ∧ j = 0
                        · rw [if_pos h2, decide_eq_true h2]; simp
                        · rw [if_neg h2, decide_eq_false h2]; simp [mkAt]))
                  clear hq hq2 hpi
                  go_wp2
                  go_roundw
                  case rel => exact ⟨k + 1, by omega, by go_num, HM7⟩
                  case measure => simp [intOf]; omega
      have ek : k = l.length := by omega
      subst ek
      have j1 : ¬ ((l.length : Nat) : Int) < ((l.length : Nat) : Int) := by omega
      have HL := hide ((unhide HM).congr (G := fun j => .bool (ldB l j)) (fun j hj => by
        unfold mkAt
        rw [List.getD_eq_getElem?_getD, mk_ld ((rsB_iff l).1 (unhide HRS)) hj]
        rfl))
      clear HM hlt hk HR
      go_upto_region 20 with fail
      generalize wr = w5 at HL ⊢
      go_wp2
      go_loopw [10, 88] (fun v i wr => ∃ (k : Nat) (M : List Bx), k ≤ l.length ∧ i = .int .i64 (k : Int) ∧ Hid (ORun w5 wr v M) ∧ Hid (M.map Bx.pl = outD l k)) (fun _ i _ => l.length - (intOf i).toNat)
      case atStart => exact ⟨0, [], by omega, rfl, hide ⟨World.ownsRow_nil _ _ _ _, fun y hy => by simp at hy, Below.refl _ _⟩, hide rfl⟩
      case round =>
        obtain ⟨k, M, hk, rfl, HO, HPL⟩ := hrel
        by_cases hlt : k < l.length
        · have j2 : ((k : Nat) : Int) < ((l.length : Nat) : Int) := by omega
          have hx := List.getElem?_eq_getElem hlt
          obtain ⟨b, off, rfl, hx5⟩ := (unhide HX).below (unhide HL).bel k _ hx
          have HPD : Hid (pD l k = l[k].p) := hide (by unfold pD; rw [hx])
          have HND : Hid (nxD l k = (nextD l[k].p l[k].op l[k].a).filter (hasP l)) := hide (by unfold nxD; rw [hx])
          have HX5 := hide ((unhide HX).below (unhide HL).bel)
          generalize l[k] = x at hx5 HPD HND
          have HXA := hide hx5
          have hb5 : b < w5.heap.size := World.block_lt_of_cell? w5 _ hx5.c0
          have hm5 := (unhide HL).row.cell hlt
          have hg5 : g < w5.heap.size := (unhide HL).row.lt
          have hmk := ((unhide HO).bel.cell (p := ⟨g, k, none⟩) hg5).trans hm5
          have c0 := ((unhide HO).bel.cell (p := ⟨b, off + k * 4, none⟩) hb5).trans hx5.c0
          clear hx hx5 hm5
          go_upto_if 94 with fail
          go_cut [10] (fun v1 wx => ∃ (A : List Bx) (z : Bx), Hid (ORun w5 wx v1 (A ++ [z])) ∧ Hid ((A ++ [z]).map Bx.pl = if ldB l k = true then outD l k ++ [(pD l k, 0, [])] else outD l k))
          case first =>
            cases hq : ldB l k
            · have HQ := hide hq
              have hne : M ≠ [] := fun e => by
                have h1 := unhide HPL
                rw [e] at h1
                have hk0 : k ≠ 0 := fun e => by rw [e, ld_zero (by omega)] at hq; cases hq
                exact out_ne (by omega) hk h1.symm
              obtain ⟨A, z, hAz⟩ : ∃ A z, M = A ++ [z] := ⟨M.dropLast, M.getLast hne, (List.dropLast_concat_getLast hne).symm⟩
              go_wp2_with fail
              go_meet
              exact ⟨A, z, by rw [← hAz]; exact HO, hide (by rw [← hAz, if_neg (by rw [unhide HQ]; simp)]; exact unhide HPL)⟩
            · have HQ := hide hq
              have hln : M.length ≤ l.length := by
                have h1 := congrArg List.length (unhide HPL)
                rw [out_el k hk] at h1
                simp at h1
                have := ldN_len l k
                omega
              have hal : Below wr.heap.size wr (wr.alloc (.cells #[.int .i64 x.p, .int .i64 0, .slice none 0 0] 25)) := (Below.refl _ _).alloc (Nat.le_refl _) _
              have HO2 := hide ((unhide HO).below hal)
              have hw5 := (unhide HO).bel.size
              clear hal
              go_wp2_with (at_builtin; refine wpList_append_own_wide _ rfl _ _ 22 rfl w5.heap.size 25 i0 (.agg #[.int .i64 0, .int .i64 0, .slice none 0 0]) 3 40 Try.underlying22 hi hz0 hz1 hz2 rfl (by decide) _ M.length (kvals M) rfl (unhide HO2).own ⟨wr.heap.size, 0, none⟩ 1 1 (kcells ⟨x.p, 0, none, 0, []⟩) rfl rfl (World.news_of_block (cs := #[.int .i64 x.p, .int .i64 0, .slice none 0 0]) (t := 25) (fr := (0, 0)) (heap_alloc_new wr _)) (kcells_one _) ?a3 ?a4 ?a5 ?_)
              case a3 => unfold maxLen; omega
              case a4 => omega
              case a5 => rw [World.size_alloc]; omega
              intro v8 w8 hO8 hG8 _
              have HR8 : Hid (ORun w5 w8 v8 (M ++ [⟨x.p, 0, none, 0, []⟩])) := hide ⟨by unfold OwnK; rw [kvals_snoc, List.length_append]; exact hO8, fun y hy => by
                rcases List.mem_append.1 hy with hy | hy
                · exact ((unhide HO2).nxs y hy).grown (unhide HO2).own hG8
                · simp at hy
                  rw [hy]
                  exact OwnJ.nil _ _, (unhide HO2).bel.grown hG8 (unhide HO2).bel.size (fun q e => (World.ownsRow.lt (unhide HO2).own q e).1)⟩
              clear hO8 hG8
              go_wp2_with fail
              go_meet
              exact ⟨M, _, HR8, hide (by rw [List.map_append, unhide HPL, if_pos (unhide HQ), unhide HPD]; rfl)⟩
          case rest =>
            obtain ⟨A, z, HO3, HP3⟩ := hcut
            obtain ⟨gb, cb, rfl⟩ := (unhide HO3).slice
            have hgb5 : w5.heap.size ≤ gb := (World.ownsRow.lt (unhide HO3).own gb rfl).1
            have hA : A.length < 5000000000000 := by
              have h1 := congrArg List.length (unhide HP3)
              have hln := ldN_len l k
              have ho := congrArg List.length (out_el (l := l) k hk)
              split at h1 <;> simp at h1 ho <;> omega
            have jA : ((A.length + 1 : Nat) : Int) - 1 = ((A.length : Nat) : Int) := by omega
            have jA2 : ((A.length : Nat) : Int) < ((A.length + 1 : Nat) : Int) := by omega
            have ho3 := (unhide HO3).own
            unfold OwnK at ho3
            rw [List.length_append, List.length_singleton] at ho3
            obtain ⟨_, e1, e2⟩ := kvals_get (l := A ++ [z]) (i := A.length) (f := z) (by simp)
            have a1 := (World.ownsRow.cellAt ho3 (A.length * 3 + 1) (by omega)).trans e1
            have a2 := (World.ownsRow.cellAt ho3 (A.length * 3 + 2) (by omega)).trans e2
            have f1 := World.ownsRow.frozenAt ho3 (A.length * 3 + 1)
            have f2 := World.ownsRow.frozenAt ho3 (A.length * 3 + 2)
            have c0' := ((unhide HO3).bel.cell (p := ⟨b, off + k * 4, none⟩) hb5).trans (unhide HXA).c0
            have HO4 := hide ((unhide HO3).last x.p ⟨z.fr, x.p, none, 0, []⟩ rfl)
            have HP4 : Hid (updD l k ((A ++ [z]).map Bx.pl) = outD l (k + 1)) := hide (by rw [unhide HP3]; rfl)
            have HP5 : Hid (A.map Bx.pl ++ [(z.fr, x.p, if edB l k = true then nxD l k else [])] = outD l (k + 1)) := hide (by rw [← unhide HP4, List.map_append, List.map_cons, List.map_nil, updD_snoc, unhide HPD]; rfl)
            clear ho3 e1 e2 HO HPL HP3 HP4 hmk c0
            go_upto_region 29 with fail
            generalize ((wc.setCell ⟨gb, A.length * 3 + 1, none⟩ (.int .i64 x.p)).setCell ⟨gb, A.length * 3 + 2, none⟩ (.slice none 0 0)) = w7 at HO4 ⊢
            clear a1 a2 f1 f2 c0' HO3
            go_cut [131] (fun u wx => u = .bool (edB l k) ∧ wx = w7)
            case first =>
              by_cases hn : k + 1 = l.length
              · have j7 : (((k : Nat) : Int) + 1 == ((l.length : Nat) : Int)) = true := by simp; omega
                have HEd : Hid (edB l k = true) := hide (by unfold edB; rw [decide_eq_true hn]; rfl)
                go_wp2_with fail
                go_meet
                exact ⟨by rw [unhide HEd], rfl⟩
              · have j7 : (((k : Nat) : Int) + 1 == ((l.length : Nat) : Int)) = false := by simp; omega
                have hn2 : k + 1 < l.length := by omega
                have j8 : ((k : Nat) : Int) + 1 < ((l.length : Nat) : Int) := by omega
                have hm7 := ((unhide HO4).bel.cell (p := ⟨g, k + 1, none⟩) hg5).trans ((unhide HL).row.cell hn2)
                have HEd : Hid (edB l k = ldB l (k + 1)) := hide (by unfold edB; rw [decide_eq_false hn]; rfl)
                go_wp2_with fail
                go_meet
                exact ⟨by rw [unhide HEd], rfl⟩
            case rest =>
              obtain ⟨rfl, rfl⟩ := hcut
              go_upto_if 131 with fail
              cases hed : edB l k
              · have HO9 : Hid ((A ++ [(⟨z.fr, x.p, none, 0, []⟩ : Bx)]).map Bx.pl = outD l (k + 1)) := hide (by rw [← unhide HP5, hed, List.map_append]; rfl)
                clear hed
                go_wp2
                go_roundw
                case rel => exact ⟨k + 1, _, by omega, by go_num, HO4, HO9⟩
                case measure => simp [intOf]; omega
              · rw [hed, if_pos rfl, unhide HND] at HP5
                clear hed
                obtain ⟨c0, c1, c2, c3, ho⟩ := unhide HXA
                have c0 := ((unhide HO4).bel.cell (p := ⟨b, off + k * 4, none⟩) hb5).trans c0
                have c1 := ((unhide HO4).bel.cell (p := ⟨b, off + k * 4 + 1, none⟩) hb5).trans c1
                have c2 := ((unhide HO4).bel.cell (p := ⟨b, off + k * 4 + 2, none⟩) hb5).trans c2
                have c3 := ((unhide HO4).bel.cell (p := ⟨b, off + k * 4 + 3, none⟩) hb5).trans c3
                go_wp2_with fail
                refine (refNext_any x.p x.op x.a x.b _).mono ?_
                rintro e w8 ⟨rv, rfl, hO8, hB8⟩
                obtain ⟨ra, rc, rfl, _, _⟩ := hO8.at
                have HO8 := hide ((unhide HO4).below hB8)
                have HRV := hide hO8
                have hgb8 : gb < w8.heap.size := (World.ownsRow.lt (unhide HO8).own gb rfl).2
                have HRG : Hid (∀ q, (Value.slice ra (nextD x.p x.op x.a).length rc).ownBlock = some q → some gb ≠ some q) := hide (fun q e e2 => by have h1 := (World.ownsRow.lt hO8 q e).1; have h2 := (World.ownsRow.lt (unhide HO4).own gb rfl).2; injection e2 with e2; omega)
                have hnl := nextD_len x.p x.op x.a
                have HI0 : Hid (IRun w5 w8 w8 gb cb A z.fr x.p none 0 []) := hide ⟨grown_same _ _, by have h1 := (unhide HO8).own; unfold OwnK at h1; rw [List.length_append, List.length_singleton] at h1; exact h1, OwnJ.nil _ _⟩
                generalize nextD x.p x.op x.a = R at HRV HRG hnl HP5
                clear c0 c1 c2 c3 hO8 hB8 HO4
                go_wp2_with fail
                obtain ⟨j0, hi', hy0, hy1, hy2⟩ := info_parts infoJ
                go_loopw [138] (fun i wr => ∃ (q : Nat) (no : Option Addr) (nc : Nat), q ≤ R.length ∧ i = .int .i64 (q : Int) ∧ Hid (IRun w5 w8 wr gb cb A z.fr x.p no nc ((R.take q).filter (hasP l)))) (fun i _ => R.length - (intOf i).toNat)
                case atStart => exact ⟨0, none, 0, by omega, rfl, by simpa using HI0⟩
                case round =>
                  obtain ⟨q, no, nc, hq, rfl, HI⟩ := hrel
                  have HD := hide ((unhide HI).done (unhide HO8))
                  by_cases hql : q < R.length
                  · have jq : ((q : Nat) : Int) < ((R.length : Nat) : Int) := by omega
                    have hR : OwnJ wr _ (.slice ra R.length rc) R := rows_grownB (unhide HRV) (unhide HI).grw (unhide HRG)
                    obtain ⟨ra', rc', e, hJs, _⟩ := hR.at
                    injection e with e1 e2 e3
                    subst e1 e3
                    clear e2
                    have hrq := List.getElem?_eq_getElem hql
                    obtain ⟨rb, ro, rfl, hcl⟩ := hJs q _ hrq
                    have HTK : Hid (R.take (q + 1) = R.take q ++ [R[q]]) := hide (List.take_append_getElem hql).symm
                    generalize R[q] = a at hcl HTK
                    generalize HNN : (R.take q).filter (hasP l) = N at HI HD
                    have HNl : N.length ≤ 2 := by rw [← HNN]; have := List.length_filter_le (hasP l) (R.take q); simp at this; omega
                    have HN2 := hide HNN
                    clear hR hJs hrq HNN
                    go_wp2_with fail
                    refine (Place2_any (some ⟨b, off, none⟩) c l a _ ((unhide HX5).below (unhide HD).bel) (by omega)).mono ?_
                    rintro e w9 ⟨rfl, hB9⟩
                    have HI9 := hide ((unhide HI).below hB9)
                    clear hB9 HI HD hcl
                    cases hh : hasP l a
                    · rw [pl_none hh]
                      have HT2 : Hid ((R.take (q + 1)).filter (hasP l) = N) := hide (by rw [unhide HTK, List.filter_append, unhide HN2]; simp [hh])
                      clear hh
                      go_wp2
                      go_roundw
                      case rel => exact ⟨q + 1, no, nc, by omega, by go_num, by rw [unhide HT2]; exact HI9⟩
                      case measure => simp [intOf]; omega
                    · obtain ⟨i, _, hpl, hil⟩ := pl_some hh
                      rw [hpl]
                      have HT2 : Hid ((R.take (q + 1)).filter (hasP l) = N ++ [a]) := hide (by rw [unhide HTK, List.filter_append, unhide HN2]; simp [hh])
                      have a2 := (unhide HI9).cell
                      have hal : Below w9.heap.size w9 (w9.alloc (.cells #[.int .i64 a] 3)) := (Below.refl _ _).alloc (Nat.le_refl _) _
                      have HI10 := hide ((unhide HI9).below hal)
                      have hw89 := (unhide HI9).grw.size
                      have ne2 := World.new_ne w9 _ a2
                      clear hh hpl hal
                      go_wp2_with (at_builtin; refine wpList_append_own _ rfl _ _ 23 rfl w8.heap.size 3 j0 (.int .i64 0) 1 8 Try.underlying23 hi' hy0 hy1 hy2 rfl (by decide) _ N.length (jvals N) rfl (unhide HI10).nx ⟨w9.heap.size, 0, none⟩ 1 1 [.int .i64 a] rfl rfl (cell_one_newJ _ _ _) (by simp [Value.oneCell']) ?a3 ?a4 ?a5 ?_)
                      case a3 => unfold maxLen; omega
                      case a4 => omega
                      case a5 => rw [World.size_alloc]; omega
                      intro v10 w10 hO10 hG10 _
                      obtain ⟨na, ncap, rfl⟩ : ∃ na ncap, v10 = .slice na (N.length + 1) ncap := by
                        rcases hO10.2 with ⟨_, h2⟩ | ⟨g', cap', cur', hv', _⟩
                        · omega
                        · exact ⟨_, _, hv'⟩
                      have hne10 : ∀ g', (Value.slice (some ⟨gb, 0, none⟩) (A.length + 1) cb).ownBlock = some g' → (Value.slice no N.length nc).ownBlock ≠ some g' := fun g' e e2 => by
                        have e' : gb = g' := by simpa [Value.ownBlock] using e
                        have := (World.ownsRow.lt (unhide HI9).nx g' e2).1
                        omega
                      have ho10 := rows_grownB (unhide HI10).own hG10 hne10
                      have b2 : ∃ u, w10.cell? ⟨gb, A.length * 3 + 2, none⟩ = some u := ⟨_, (World.ownsRow.cellAt ho10 (A.length * 3 + 2) (by omega)).trans (kvals_get (l := A ++ [⟨z.fr, x.p, no, nc, N⟩]) (i := A.length) (f := ⟨z.fr, x.p, no, nc, N⟩) (by simp)).2.2⟩
                      obtain ⟨u10, b2⟩ := b2
                      have f2 := World.ownsRow.frozenAt ho10 (A.length * 3 + 2)
                      have HI11 := hide ((unhide HI9).more hgb8 hO10 hG10)
                      clear hO10 hG10 ho10 hne10 a2 ne2
                      go_wp2
                      go_roundw
                      case rel => exact ⟨q + 1, na, ncap, by omega, by go_num, by rw [unhide HT2]; exact HI11⟩
                      case measure => simp [intOf]; omega
                  · have jq : ¬ ((q : Nat) : Int) < ((R.length : Nat) : Int) := by omega
                    have HT2 : Hid ((R.take q).filter (hasP l) = R.filter (hasP l)) := hide (by rw [List.take_of_length_le (by omega)])
                    have HP9 : Hid ((A ++ [(⟨z.fr, x.p, no, nc, (R.take q).filter (hasP l)⟩ : Bx)]).map Bx.pl = outD l (k + 1)) := hide (by rw [← unhide HP5, List.map_append, unhide HT2]; rfl)
                    go_wp2
                    go_roundw
                    case rel => exact ⟨k + 1, _, by omega, by go_num, HD, HP9⟩
                    case measure => simp [intOf]; omega
        have j9 : ¬ ((k : Nat) : Int) < ((l.length : Nat) : Int) := by omega
        have ek : k = l.length := by omega
        subst ek
        have HF9 : Hid (M.map Bx.pl = bkD l) := hide (by rw [unhide HPL, out_bk (unhide HRS)])
        have HB9 := hide ((unhide HL).bel.trans ((unhide HO).bel.mono (unhide HL).bel.size))
        have HS9 := hide (unhide HL).bel.size
        go_wp2
        go_ret
        exact ⟨_, rfl, M, ownK_mono (unhide HO).own (unhide HS9), fun y hy => ownJ_mono ((unhide HO).nxs y hy) (unhide HS9), unhide HF9, unhide HB9⟩
end Go.Proofs.Ytdpfinnclnapbaa
