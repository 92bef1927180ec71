/-
  The walk of the law WireReads: it returns true for every row of bytes and every script, and writes nothing that was there.
-/
import Derived.Test.YtggaecmjadkopaaLook3
import Derived.Test.YtggaecmjadkopaaSt
import Derived.Test.YtggaecmjadkopaaPutInv
import Derived.Test.YtggaecmjadkopaaRdLook
namespace Go.Proofs.Ytggaecmjadkopaa
open Go.RowKit

theorem start_st {W0 w : World} {bo : Option Addr} {bc : Nat} {bs : List UInt8} {p g : Nat} (hb : BAt W0 bo bs) (hI : IsReader w p g bs.length bs 0) (hB : Below W0.heap.size W0 w) (hp : W0.heap.size ≤ p) :
    St W0 (((w.alloc (.cells #[.pointer (some ⟨p, 0, none⟩)] 26)).alloc (.cells #[.slice bo bs.length bc, .int .i64 0] 32)).alloc (.cells #[.pointer (some ⟨w.heap.size + 1, 0, none⟩)] 30))
      (.slice (some ⟨w.heap.size, 0, none⟩) 1 1) (.slice (some ⟨w.heap.size + 2, 0, none⟩) 1 1) [⟨p, g, bs.length, w.heap.size + 1, bo, bc, bs, 0⟩] := by
  generalize hwa : w.alloc (.cells #[.pointer (some ⟨p, 0, none⟩)] 26) = wa
  generalize hwb : wa.alloc (.cells #[.slice bo bs.length bc, .int .i64 0] 32) = wb
  generalize hwc : wb.alloc (.cells #[.pointer (some ⟨w.heap.size + 1, 0, none⟩)] 30) = wc
  have sa : wa.heap.size = w.heap.size + 1 := by rw [← hwa]; exact World.size_alloc _ _
  have sb : wb.heap.size = w.heap.size + 2 := by rw [← hwb, World.size_alloc, sa]
  have hBa : Below w.heap.size w wa := by rw [← hwa]; exact (Below.refl _ w).alloc (Nat.le_refl _) _
  have hBb : Below wa.heap.size wa wb := by rw [← hwb]; exact (Below.refl _ wa).alloc (Nat.le_refl _) _
  have hBc : Below wb.heap.size wb wc := by rw [← hwc]; exact (Below.refl _ wb).alloc (Nat.le_refl _) _
  have hac : Below wa.heap.size wa wc := hBb.trans (hBc.mono hBb.size)
  have hwc' : Below w.heap.size w wc := hBa.trans (hac.mono hBa.size)
  have h1 : wa.heap[w.heap.size]? = some (.cells #[.pointer (some ⟨p, 0, none⟩)] 26 (0, 0)) := by rw [← hwa]; exact heap_alloc_new w _
  have h2 : wb.heap[w.heap.size + 1]? = some (.cells #[.slice bo bs.length bc, .int .i64 0] 32 (0, 0)) := by rw [← hwb, ← sa]; exact heap_alloc_new wa _
  have h3 : wc.heap[w.heap.size + 2]? = some (.cells #[.pointer (some ⟨w.heap.size + 1, 0, none⟩)] 30 (0, 0)) := by rw [← hwc, ← sb]; exact heap_alloc_new wb _
  have h1c := (hac.block _ (by omega)).trans h1
  have h2c := (hBc.block _ (by omega)).trans h2
  have hl := hB.size
  have hget : ∀ (i : Nat) (x : RD), [(⟨p, g, bs.length, w.heap.size + 1, bo, bc, bs, 0⟩ : RD)][i]? = some x → i = 0 ∧ x = ⟨p, g, bs.length, w.heap.size + 1, bo, bc, bs, 0⟩ := by
    intro i x hx
    match i, hx with
    | 0, hx => injection hx with hx; exact ⟨rfl, hx.symm⟩
    | i + 1, hx => simp at hx
  have hold : ∀ b off, bo = some ⟨b, off, none⟩ → 0 < bs.length → b < W0.heap.size := fun b off e hl => by rw [e] at hb; exact hb.lt hl
  refine ⟨⟨rfl, .inr ⟨w.heap.size, 1, #[.pointer (some ⟨p, 0, none⟩)], rfl, hl, h1c, Nat.le_refl _, by decide, rfl, rfl⟩⟩, ⟨rfl, .inr ⟨w.heap.size + 2, 1, #[.pointer (some ⟨w.heap.size + 1, 0, none⟩)], rfl, by omega, h3, Nat.le_refl _, by decide, rfl, rfl⟩⟩, ?_, ?_, ?_, ?_, hB.trans (hwc'.mono hl), by simp⟩
  · intro i x hx
    obtain ⟨rfl, rfl⟩ := hget i x hx
    exact ⟨hI.below hwc', h2c, hb.below' (hB.trans (hwc'.mono hl))⟩
  · intro i j x y hx hy hne
    obtain ⟨rfl, rfl⟩ := hget i x hx
    obtain ⟨rfl, rfl⟩ := hget j y hy
    omega
  · intro i x hx
    obtain ⟨rfl, rfl⟩ := hget i x hx
    exact ⟨hp, by show W0.heap.size ≤ w.heap.size + 1; omega⟩
  · intro i x hx
    obtain ⟨rfl, rfl⟩ := hget i x hx
    have := hI.gl
    refine ⟨fun e => ?_, fun e => ?_, fun b off e hlb => ⟨fun e' => ?_, fun e' => ?_⟩⟩
    · simp [Value.ownBlock] at e; omega
    · simp [Value.ownBlock] at e; omega
    · have := hold b off e hlb
      simp [Value.ownBlock] at e'; omega
    · have := hold b off e hlb
      simp [Value.ownBlock] at e'; omega

theorem look_u {w : World} {x : RD} (h : Rel w x) (who op n : Int) :
    Calls Try.prog 13 #[rp x, qp x, .agg #[.int .i64 who, .int .i64 op, .int .i64 n]] w fun e w' => ∃ (k' : Nat) (a b : Option Addr), e = .returned (.tuple #[.bool true, .pointer a, .pointer b]) ∧ Rel w' { x with k := k' } ∧ Kept (LT x) w w' ∧
      (a = none ∨ ∃ y : RD, a = some ⟨y.p, 0, none⟩ ∧ b = some ⟨y.q, 0, none⟩ ∧ Rel w' y ∧ w.heap.size ≤ y.p ∧ w.heap.size ≤ y.q ∧ w.heap.size ≤ y.g ∧ ∀ b off, y.ao = some ⟨b, off, none⟩ → 0 < y.l.length → w.heap.size ≤ b) := by
  refine (look_any h who op n).mono ?_
  rintro e w' ⟨k', hR, hK, rfl | ⟨y, rfl, hy⟩⟩
  · exact ⟨k', none, none, rfl, hR, hK, .inl rfl⟩
  · exact ⟨k', _, _, rfl, hR, hK, .inr ⟨y, rfl, rfl, hy⟩⟩

theorem info26 : (Try.prog.info? 26).map (fun i => (i.zero, i.size, i.bytes)) = some (some (.pointer none), 1, 8) := by kernel_rfl
theorem info30 : (Try.prog.info? 30).map (fun i => (i.zero, i.size, i.bytes)) = some (some (.pointer none), 1, 8) := by kernel_rfl

theorem one_cell (w : World) (v : Value) (t : TypeId) : ∀ (j : Nat) (u : Value), [v][j]? = some u → (w.alloc (.cells #[v] t)).cell? ((⟨w.heap.size, 0, none⟩ : Addr).add j) = some u := by
  intro j u hj
  match j, hj with
  | 0, hj => simp at hj; subst hj; simp [Addr.add]
  | j + 1, hj => simp at hj

/-- What a step leaves of the rows and of the step's own cells. -/
theorem St.cells {W0 w : World} {rg pg rc pc : Nat} {xs : List RD} {i : Nat} {x : RD} (h : St W0 w (.slice (some ⟨rg, 0, none⟩) xs.length rc) (.slice (some ⟨pg, 0, none⟩) xs.length pc) xs) (hx : xs[i]? = some x) :
    w.cell? ⟨rg, i, none⟩ = some (rp x) ∧ w.cell? ⟨pg, i, none⟩ = some (qp x) := by
  have hi := (List.getElem?_eq_some_iff.1 hx).1
  refine ⟨?_, ?_⟩
  · rw [h.rr.cellAt i (by omega), List.getElem?_map, hx]; rfl
  · rw [h.pr.cellAt i (by omega), List.getElem?_map, hx]; rfl

theorem St.len {W0 w : World} {rv pv : Value} {xs : List RD} (h : St W0 w rv pv xs) : ∃ rg rc pg pc, rv = .slice (some ⟨rg, 0, none⟩) xs.length rc ∧ pv = .slice (some ⟨pg, 0, none⟩) xs.length pc := by
  obtain ⟨rg, rc, _, h1, _⟩ := row_at h.rr h.pos
  obtain ⟨pg, pc, _, h2, _⟩ := row_at h.pr h.pos
  exact ⟨rg, rc, pg, pc, h1, h2⟩

theorem Kept.cell {S : Nat → Prop} {w w' : World} {b o : Nat} {v : Value} (hk : Kept S w w') (h : w.cell? ⟨b, o, none⟩ = some v) (hs : ¬ S b) : w'.cell? ⟨b, o, none⟩ = some v :=
  (World.cell?_of_block (hk.block b (World.block_lt_of_cell? w _ h) hs)).trans h

theorem LT.not_in {w : World} {x : RD} {b : Nat} {cs : Array Value} {t : TypeId} {fr : Nat × Nat} (hx : Rel w x) (hb : w.heap[b]? = some (.cells cs t fr)) (h1 : t ≠ 68) (h2 : t ≠ 32) : ¬ LT x b := by
  rintro (rfl | rfl)
  · rw [hx.rd.row] at hb
    simp at hb
    exact h1 hb.2.1.symm
  · rw [hx.pl] at hb
    simp at hb
    exact h2 hb.2.1.symm

set_option maxHeartbeats 2000000 in
theorem walkWireReads {W0 : World} (bo : Option Addr) (bc : Nat) (bs : List UInt8) (hb : BAt W0 bo bs) (hn : bo = none → bs = []) (hbl : bs.length ≤ 140737488351232) (ao : Option Addr) (cap : Nat) (L : List LookD) (h : LooksAt W0 ao L) (hfit : L.length * 24 ≤ 140737488351232) :
    Calls Try.prog 3 #[.slice bo bs.length bc, .slice ao L.length cap] W0 fun e w' => e = .returned (.bool true) ∧ Below W0.heap.size W0 w' := by
  go_enter Try.func3, Try.ntmps3
  go_wp2_with fail
  refine (Roomy_any bo bc bs _ hb hn hbl).mono ?_
  rintro e w1 ⟨g, cp, rfl, hg, hown, hB1⟩
  have hr : BAt w1 (some ⟨g, 0, none⟩) (roomy bs) ∧ bs.length + 4 ≤ cp ∧ g < w1.heap.size := by
    rcases hown.shape with ⟨h1, _⟩ | ⟨g', cap', hv, _, hgl, hc, _, hbt⟩
    · cases h1
    · injection hv with hv hv2 hv3
      injection hv with hv
      injection hv with hv
      subst hv hv3
      rw [roomy_length] at hc
      exact ⟨hbt, hc, hgl⟩
  obtain ⟨hr, hcp, hgl⟩ := hr
  have HR := hide hr
  have HO := hide hown
  clear hr hown
  go_wp2_with fail
  refine (Over_any (some ⟨g, 0, none⟩) cp bs _ (unhide HR).take (by omega)).mono ?_
  rintro e w2 ⟨p, g2, rfl, hp, hg2, hR, hB2⟩
  have hB02 : Below W0.heap.size W0 w2 := hB1.trans (hB2.mono hB1.size)
  have HR2 := hide ((unhide HR).below' hB2)
  have HB2 := hide (hb.below' hB02)
  have HO2 := hide ((unhide HO).below hB2)
  have hgp : g ≠ p := by omega
  have hgg : g ≠ g2 := by omega
  have hpW : W0.heap.size ≤ p := Nat.le_trans hB1.size hp
  have hgW : W0.heap.size ≤ g2 := Nat.le_trans hB1.size hg2
  clear HR HO hB1 hB2
  go_wp2_with fail
  refine (Untouched_yes g cp bo bc bs _ (unhide HR2) (unhide HB2) hcp (by omega)).mono ?_
  rintro e w5 ⟨rfl, j, rfl⟩
  have HO3 := hide ((unhide HO2).below (belowD (Below.refl _ w2) j))
  have hR3 := hR.drewN j
  have hB03 := belowD hB02 j
  clear HO2 HR2 HB2 hR hB02
  generalize World.drewN w2 j = w3 at HO3 hR3 hB03 ⊢
  go_wp2
  go_loopw [36] (fun i wr => ∃ (k : Nat) (G : List UInt8), k ≤ bs.length ∧ i = .int .i64 k ∧ OwnB wr 0 (.slice (some ⟨g, 0, none⟩) (bs.length + 4) cp) G ∧ G.length = bs.length + 4 ∧ IsReader wr p g2 bs.length bs 0 ∧ Below W0.heap.size W0 wr) (fun i _ => bs.length - (intOf i).toNat)
  case atStart => exact ⟨0, roomy bs, by omega, rfl, (unhide HO3).mono (Nat.zero_le _), roomy_length bs, hR3, hB03⟩
  case round =>
    clear hR3 hB03 HO3
    obtain ⟨k, G, hk, rfl, hO, hL, hI, hB⟩ := hrel
    by_cases hlt : k < bs.length
    · have hO' : wr.ownsRow 0 5 1 (.slice (some ⟨g, 0, none⟩) (bs.length + 4) cp) (bs.length + 4) (bvals G) := by
        have := hO; unfold OwnB at this; rw [hL] at this; exact this
      have c1 : wr.cell? ⟨g, k, none⟩ = some (.int .u8 (at8 G k)) := (hO'.cellAt k (by omega)).trans (bvals_get (by omega))
      have f1 := hO'.frozenAt k
      have i1 : (k : Int) < (bs.length : Int) := by omega
      obtain ⟨x, HX⟩ : ∃ x, Hid (G.getD k 0 = x) := ⟨_, hide rfl⟩
      have hx : at8 G k = (x.toNat : Int) := by unfold at8; rw [unhide HX]
      rw [hx] at c1
      have hfl := flip8 x
      have hst := hO'.stored k (.int .u8 ((x ^^^ 255).toNat : Int))
      have HO1 : Hid (OwnB (wr.setCell ⟨g, k, none⟩ (.int .u8 ((x ^^^ 255).toNat : Int))) 0 (.slice (some ⟨g, 0, none⟩) (bs.length + 4) cp) (G.set k (x ^^^ 255))) := hide (by
        have h1 := hst.1
        rw [bvals_set] at h1
        unfold OwnB
        rw [List.length_set, hL]
        exact h1)
      have hkk := kept_setCell wr ⟨g, k, none⟩ (.int .u8 ((x ^^^ 255).toNat : Int))
      have HI1 : Hid (IsReader (wr.setCell ⟨g, k, none⟩ (.int .u8 ((x ^^^ 255).toNat : Int))) p g2 bs.length bs 0) := hide ⟨(hkk.block _ hI.pl (fun e => hgp e.symm)).trans hI.row, hI.bytes.keep hkk (fun b off e _ e' => by cases e; exact hgg e'.symm), Nat.lt_of_lt_of_le hI.gl hkk.size, hI.ne, hI.le, hI.cap_, hI.fit⟩
      have HB1 := hide (hkk.below hB hB.size (fun y e => by rw [e]; exact hg))
      generalize ((x ^^^ 255).toNat : Int) = z at hfl HO1 HI1 HB1
      clear hst hO hO' hI hx hkk hB
      go_wp2
      go_roundw
      case rel => exact ⟨k + 1, _, by omega, by go_num, unhide HO1, by rw [List.length_set]; exact hL, unhide HI1, unhide HB1⟩
      case measure => simp [intOf]; omega
    · clear hO hL G
      have HS := hide (start_st hb hI hB hpW (bc := bc))
      clear hI hB
      go_wp2
      go_loopw [9, 10, 54] (fun rv pv i wr => ∃ (k : Nat) (xs : List RD), k ≤ L.length ∧ i = .int .i64 k ∧ St W0 wr rv pv xs ∧ xs.length ≤ k + 1) (fun _ _ i _ => L.length - (intOf i).toNat)
      case atStart => exact ⟨0, _, by omega, rfl, unhide HS, by simp⟩
      case round =>
        clear HS
        obtain ⟨k, xs, hk, rfl, hS, hx⟩ := hrel
        by_cases hlt : k < L.length
        · obtain ⟨b, off, rfl, hpa⟩ := h k _ (List.getElem?_eq_getElem hlt)
          have hpw := hpa.below hS.bel
          generalize L[k] = s at hpa hpw
          have c0 := hpw.c0
          have c1 := hpw.c1
          have c2 := hpw.c2
          have i1 : (k : Int) < (L.length : Int) := by omega
          have hS1 := hS.below ((Below.refl _ wr).alloc (Nat.le_refl _) (.cells #[.int .i64 s.who, .int .i64 s.op, .int .i64 s.n] 35))
          have hpos := hS.pos
          obtain ⟨rg, rc, pg, pc, rfl, rfl⟩ := hS.len
          have hrow : (wr.alloc (.cells #[.int .i64 s.who, .int .i64 s.op, .int .i64 s.n] 35)).heap[wr.heap.size]? = some (.cells #[.int .i64 s.who, .int .i64 s.op, .int .i64 s.n] 35 (0, 0)) := heap_alloc_new wr _
          have hsz := World.size_alloc wr (.cells #[.int .i64 s.who, .int .i64 s.op, .int .i64 s.n] 35)
          have HS1 := hide hS1
          have HRow := hide hrow
          have HZ := hide hsz
          clear hS hS1 hrow hsz hpw
          go_wp2_with fail
          refine (pick_any s.who xs.length _ hpos (by omega)).mono ?_
          rintro e w4 ⟨rfl, rfl⟩
          have hm := pickN_lt s.who xs.length hpos
          generalize pickN s.who xs.length = m at hm
          generalize World.alloc wr _ = w5 at HS1 HRow HZ ⊢
          clear c0 c1 c2
          obtain ⟨x, hx1⟩ : ∃ x, xs[m]? = some x := ⟨_, List.getElem?_eq_getElem hm⟩
          obtain ⟨r1, q1⟩ := (unhide HS1).cells hx1
          have i2 : (m : Int) < (xs.length : Int) := by omega
          have b0 : w5.cell? ⟨wr.heap.size, 0, none⟩ = some (.int .i64 s.who) := by rw [cell_of_row _ _ _ _ _ _ (unhide HRow)]; rfl
          have b1 : w5.cell? ⟨wr.heap.size, 1, none⟩ = some (.int .i64 s.op) := by rw [cell_of_row _ _ _ _ _ _ (unhide HRow)]; rfl
          have b2 : w5.cell? ⟨wr.heap.size, 2, none⟩ = some (.int .i64 s.n) := by rw [cell_of_row _ _ _ _ _ _ (unhide HRow)]; rfl
          have HSd := hide ((unhide HS1).below (belowD (Below.refl _ w5) 1))
          have HX := hide hx1
          have HKeep : Hid (∀ w2, Kept (LT x) w5.drew w2 → w2.cell? ⟨rg, m, none⟩ = some (rp x) ∧ w2.cell? ⟨pg, m, none⟩ = some (qp x) ∧ w2.cell? ⟨wr.heap.size, 0, none⟩ = some (.int .i64 s.who) ∧ w2.cell? ⟨wr.heap.size, 1, none⟩ = some (.int .i64 s.op) ∧ w2.cell? ⟨wr.heap.size, 2, none⟩ = some (.int .i64 s.n)) := by
            have hxr := (unhide HS1).rel m x hx1
            refine hide (fun w2 hk => ?_)
            obtain ⟨_, hr1⟩ := row_type (unhide HS1).rr rg rfl
            obtain ⟨_, hp1⟩ := row_type (unhide HS1).pr pg rfl
            have n1 := LT.not_in hxr hr1 (by decide) (by decide)
            have n2 := LT.not_in hxr hp1 (by decide) (by decide)
            have n3 := LT.not_in hxr (unhide HRow) (by decide) (by decide)
            exact ⟨hk.cell r1 n1, hk.cell q1 n2, hk.cell b0 n3, hk.cell b1 n3, hk.cell b2 n3⟩
          clear hx1 HS1
          go_wp2
          go_region_held3 (fun w' => w'.cell? ⟨rg, m, none⟩ = some (rp x) ∧ w'.cell? ⟨pg, m, none⟩ = some (qp x) ∧ w'.cell? ⟨wr.heap.size, 0, none⟩ = some (.int .i64 s.who) ∧ w'.cell? ⟨wr.heap.size, 1, none⟩ = some (.int .i64 s.op) ∧ w'.cell? ⟨wr.heap.size, 2, none⟩ = some (.int .i64 s.n)) (first | exact unhide HKeep _ hK6 | go_keep) (first | (go_at_call 13; refine (look_u ((unhide HSd).rel m x (unhide HX)) s.who s.op s.n).mono ?_; rintro e w6 ⟨k', pa, pb, rfl, hR6, hK6, hE⟩))
          clear b0 b1 b2 r1 q1 HKeep
          have hS6 := (unhide HSd).look (unhide HX) hR6 hK6
          have hl6 : (xs.set m { x with k := k' }).length = xs.length := List.length_set
          have hz6 : w5.heap.size ≤ w6.heap.size := hK6.size
          rcases hE with rfl | ⟨y, rfl, rfl, hy, hyp, hyq, hyg, hya⟩
          · generalize (xs.set m { x with k := k' }) = xs6 at hS6 hl6
            clear hR6 hK6 HSd HX HRow HZ
            go_wp2
            go_roundw
            case rel => exact ⟨k + 1, xs6, by omega, by go_num, hS6, by omega⟩
            case measure => simp [intOf]; omega
          · have hyp' : w5.heap.size ≤ y.p := hyp
            have hyq' : w5.heap.size ≤ y.q := hyq
            have hyg' : w5.heap.size ≤ y.g := hyg
            have hya' : ∀ b off, y.ao = some ⟨b, off, none⟩ → 0 < y.l.length → w5.heap.size ≤ b := hya
            have hrl : rg < w5.heap.size := ((unhide HSd).rr.lt rg rfl).2
            have hpl : pg < w5.heap.size := ((unhide HSd).pr.lt pg rfl).2
            have HD : Hid (∀ (i : Nat) (z : RD), (xs.set m { x with k := k' })[i]? = some z → z.p < w5.heap.size ∧ z.q < w5.heap.size) := hide (by
              intro i z hz
              by_cases e : m = i
              · subst e
                rw [List.getElem?_set_self hm] at hz
                injection hz with hz
                have := (unhide HSd).rel m x (unhide HX)
                rw [← hz]
                exact ⟨this.rd.pl, this.ql⟩
              · rw [List.getElem?_set_ne e] at hz
                have := (unhide HSd).rel i z hz
                exact ⟨this.rd.pl, this.ql⟩)
            have hW5 : W0.heap.size ≤ w5.heap.size := (unhide HSd).bel.size
            clear hR6 hK6 HSd HX HRow HZ hyp hyq hyg hya
            generalize (xs.set m { x with k := k' }) = xs6 at hS6 hl6 HD
            have HAP : Hid (∀ (i : Nat) (z : RD), xs6[i]? = some z → z.p ≠ y.p ∧ z.q ≠ y.q) := hide (fun i z hz => by
              have := unhide HD i z hz
              exact ⟨by omega, by omega⟩)
            have HOLD : Hid (W0.heap.size ≤ y.p ∧ W0.heap.size ≤ y.q) := hide ⟨by omega, by omega⟩
            have HGD : Hid ((Value.slice (some ⟨rg, 0, none⟩) xs.length rc).ownBlock ≠ some y.g ∧ (Value.slice (some ⟨pg, 0, none⟩) xs.length pc).ownBlock ≠ some y.g ∧ ∀ b off, y.ao = some ⟨b, off, none⟩ → 0 < y.l.length → (Value.slice (some ⟨rg, 0, none⟩) xs.length rc).ownBlock ≠ some b ∧ (Value.slice (some ⟨pg, 0, none⟩) xs.length pc).ownBlock ≠ some b) := hide (by
              refine ⟨fun e => ?_, fun e => ?_, fun b off e hl => ⟨fun e' => ?_, fun e' => ?_⟩⟩
              · simp [Value.ownBlock] at e; omega
              · simp [Value.ownBlock] at e; omega
              · have := hya' b off e hl
                simp [Value.ownBlock] at e'; omega
              · have := hya' b off e hl
                simp [Value.ownBlock] at e'; omega)
            have hn6 : xs6.length + 1 ≤ 6000000000000 := by omega
            have HS6 := hide hS6
            have HY := hide hy
            clear hS6 hy HD hyp' hyq' hyg' hya'
            obtain ⟨i0, hi, hz0, hz1, hz2⟩ := info_parts info26
            obtain ⟨i0', hi', hz0', hz1', hz2'⟩ := info_parts info30
            have HA := hide ((unhide HS6).below ((Below.refl _ w6).alloc (Nat.le_refl _) (.cells #[rp y] 26)))
            have HYA := hide ((unhide HY).below ((Below.refl _ w6).alloc (Nat.le_refl _) (.cells #[rp y] 26)))
            have HC := hide (one_cell w6 (rp y) 26)
            go_wp2_with (at_builtin; refine wpList_append_own_at _ rfl _ _ 29 rfl W0.heap.size 26 i0 (.pointer none) 1 8 Try.underlying29 hi hz0 hz1 hz2 rfl (by decide) _ xs6.length (xs6.map rp) rfl (unhide HA).rr ⟨w6.heap.size, 0, none⟩ 1 1 [rp y] rfl rfl (unhide HC) (by simp [rp, Value.oneCell']) ?a3 ?a4 ?a5 ?_)
            case a3 => unfold maxLen; omega
            case a4 => omega
            case a5 => have := (unhide HA).bel.size; exact this
            intro rv' w7 hO7 hG7 _ hF7
            have HG7 := hide hG7
            have HO7 : Hid (w7.ownsRow W0.heap.size 26 1 rv' (xs6.length + 1) (xs6.map rp ++ [rp y])) := hide (by rw [hl6]; exact hO7)
            have HF7 := hide hF7
            have HPR := hide (row_keep ((unhide HA).pr_mid hG7) (Kept.of_below ((Below.refl _ w7).alloc (Nat.le_refl _) (.cells #[qp y] 30)) (fun _ => False)) (fun _ _ h => h))
            have HC2 := hide (one_cell w7 (qp y) 30)
            have hz7 : W0.heap.size ≤ w7.heap.size := Nat.le_trans (unhide HA).bel.size hG7.size
            clear hO7 hG7 hF7
            go_wp2_with (at_builtin; refine wpList_append_own_at _ rfl _ _ 33 rfl W0.heap.size 30 i0' (.pointer none) 1 8 Try.underlying33 hi' hz0' hz1' hz2' rfl (by decide) _ xs6.length (xs6.map qp) rfl (unhide HPR) ⟨w7.heap.size, 0, none⟩ 1 1 [qp y] rfl rfl (unhide HC2) (by simp [qp, Value.oneCell']) ?b3 ?b4 ?b5 ?_)
            case b3 => unfold maxLen; omega
            case b4 => omega
            case b5 => rw [World.size_alloc]; omega
            intro pv' w8 hO8 hG8 _ hF8
            have hO8' : w8.ownsRow W0.heap.size 30 1 pv' (xs6.length + 1) (xs6.map qp ++ [qp y]) := by rw [hl6]; exact hO8
            have HS8 := hide (St.push (unhide HA) (unhide HYA) (unhide HAP) (unhide HOLD) (unhide HGD) (unhide HO7) (unhide HG7) (by rw [World.size_alloc]; exact unhide HF7) ((Below.refl _ w7).alloc (Nat.le_refl _) _) hO8' hG8 (by rw [World.size_alloc]; exact hF8))
            clear hO8 hO8' hG8 hF8 HPR HC2 HO7 HG7 HF7 HC
            go_wp2
            go_roundw
            case rel => exact ⟨k + 1, xs6 ++ [y], by omega, by go_num, unhide HS8, by simp; omega⟩
            case measure => simp [intOf]; omega
        · have hpos := hS.pos
          obtain ⟨rg, rc, pg, pc, rfl, rfl⟩ := hS.len
          go_wp2
          go_loopw [92] (fun i wr => ∃ (k : Nat), k ≤ xs.length ∧ i = .int .i64 k ∧ St W0 wr (.slice (some ⟨rg, 0, none⟩) xs.length rc) (.slice (some ⟨pg, 0, none⟩) xs.length pc) xs) (fun i _ => xs.length - (intOf i).toNat)
          case atStart => exact ⟨0, by omega, rfl, hS⟩
          case round =>
            clear hS
            obtain ⟨k, hk, rfl, hS⟩ := hrel
            by_cases hlt : k < xs.length
            · obtain ⟨x, hx1⟩ : ∃ x, xs[k]? = some x := ⟨_, List.getElem?_eq_getElem hlt⟩
              obtain ⟨r1, q1⟩ := hS.cells hx1
              have i1 : (k : Int) < (xs.length : Int) := by omega
              have hR := hS.rel k x hx1
              have p0 := hR.q0
              have p1 := hR.q1
              have hle := hR.rd.le
              have hfx := hR.rd.fit
              have HS := hide hS
              have HR := hide hR
              have f1 : (((x.l.length - x.k : Nat) : Int) != (x.l.length : Int) - (x.k : Int)) = false := bne_f (by omega)
              clear hS hR hx1
              unfold rp at r1
              unfold qp at q1
              go_wp2
              go_quiet (first | (go_at_call 14; refine Calls.quiet_of_same (At_any ((unhide HR).rd.drewN _))) | (go_at_call 15; refine Calls.quiet_of (Left_any ((unhide HR).rd.drewN _))))
              clear r1 q1 p0 p1
              go_wp2
              go_roundw
              case rel => exact ⟨k + 1, by omega, by go_num, (unhide HS).below (belowD (Below.refl _ _) _)⟩
              case measure => simp [intOf]; omega
            · go_wp2
              go_ret
              exact ⟨rfl, hS.bel⟩
end Go.Proofs.Ytggaecmjadkopaa
