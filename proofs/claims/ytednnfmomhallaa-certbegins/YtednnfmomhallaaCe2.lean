/-
  The function that (*Reader).entries makes: it hands over the entries that Told tells, and at last the fault, if there is one. Conditions: the reader is one that Open made, its bytes lie there; of a round, that it leaves the bytes, the reader and what the function keeps.
-/
import Derived.Test.YtednnfmomhallaaCe1
import Derived.Test.YtednnfmomhallaaRi2
import Derived.RangeFuncNested
import Derived.RangeFuncBound
import Derived.RangeFuncCalls
import Derived.RangeFuncLeaves
import Derived.Shelf.Abstract
import Derived.Shelf.RegionOpen
import Derived.WalkKit
import Derived.TacticsInMore
import Derived.LoopNIn
import Derived.LoopIn
import Derived.RangeFuncFrom
namespace Go.Proofs.Ytednnfmomhallaa
open Go.RowKit Go.Shelf
attribute [local go_sem] Oper.semAt_some

abbrev Yd := En × Int × Int
def encY (y : Yd) : Array Value := #[.agg (enA y.1), ftV y.2.1 y.2.2]
def ysA (A : List (En × Nat)) : List Yd := A.map fun a => (a.1, 0, 0)
def ysT (A : List (En × Nat)) (q : Nat) (er : Int) : List Yd := ysA A ++ (if er = 0 then [] else [(enZ, (q : Int), er)])
theorem ysA_one (A : List (En × Nat)) (x : En) (m : Nat) : ysA (A ++ [(x, m)]) = ysA A ++ [(x, 0, 0)] := by simp [ysA]
/-- What a round that goes on keeps. -/
structure Kpt (n0 gr Br B1 B0 : Nat) (W W' : World) : Prop where
  bel : Below n0 W W'
  rd : W'.heap[gr]? = W.heap[gr]?
  bx : W'.heap[Br]? = W.heap[Br]?
  own : ∀ r, B1 ≤ r → r < B0 → W'.heap[r]? = W.heap[r]?

set_option maxHeartbeats 1000000 in
theorem entriesMake_any (gr : Nat) (w : World) :
    Calls Try.prog 30 #[.pointer (some ⟨gr, 0, none⟩)] w fun e w' => e = .returned (.func (.func 39) #[] #[.pointer (some ⟨w.heap.size, 0, none⟩)]) ∧ w' = w.alloc (.cells #[.pointer (some ⟨gr, 0, none⟩)] 56) := by
  go_enter Try.func30, Try.ntmps30
  go_wp2
  go_ret
  exact ⟨rfl, rfl⟩

theorem grown_setRow (W : World) (k : Nat) (cs : Array Value) : W.grownBy (W.setRow k cs) (some k) :=
  ⟨rfl, rfl, rfl, by simp, fun j _ hj => setRow_other W k j cs (fun e => hj (by rw [e]))⟩
def bN : Value → Nat
  | .bool true => 1
  | _ => 0
def tN (W : World) (gr : Nat) : Nat := match W.cell? ⟨gr, 4, none⟩ with | some v => (intOf v).toNat | none => 0
theorem tN_of {W : World} {gr : Nat} {v : Value} {lo n p a : Int} {k : Nat} (h : RAt W gr v lo n p (k : Int) a) : tN W gr = k := by
  unfold tN
  rw [h.c4]
  simp [intOf]

set_option maxRecDepth 20000 in
set_option maxHeartbeats 4000000 in
theorem entries1_in (nf : Nat) (hnf : 1 ≤ nf) (l Br gr : Nat) {ao : Option Addr} {c : Nat} {L : List UInt8} {lo n q : Nat} {er : Int} {A : List (En × Nat)} (w0 : World) (hb : BAt w0 ao L) (hl : L.length ≤ 562949953421312) (h6 : 6 ≤ L.length) (hlo : lo ≤ 16) (hn : n ≤ 4096) (hT : tolD L lo n 6 (-1) = (A, q, er))
    (J : Nat → List Yd → World → Prop) (Jx : List Yd → World → Prop) (W : World)
    (hJ : ∀ B0 pre W1 W2 row, J B0 pre W1 → W1.grownBy W2 row → (∀ r, row = some r → r = gr ∨ (W.heap.size ≤ r ∧ r < B0)) → J B0 pre W2)
    (hY : ∀ B0 pre x W1, J B0 pre W1 → W.heap.size ≤ B0 → B0 ≤ W1.heap.size → pre ++ [x] <+: ysT A q er → FrOk x.1.fr → YieldAt Fence.wide (nf - 1) Try.prog l (encY x) W1 fun e W2 =>
      (e = .returned (.bool true) ∧ J B0 (pre ++ [x]) W2 ∧ Kpt w0.heap.size gr Br W.heap.size B0 W1 W2) ∨ (e = .returned (.bool false) ∧ Jx (pre ++ [x]) W2))
    (hB : Below w0.heap.size w0 W) (hBr : W.heap[Br]? = some (.cells #[.pointer (some ⟨gr, 0, none⟩)] 56 (0, 0))) (hR : RAt W gr (.slice ao L.length c) lo n 6 0 (-1)) (hgr : w0.heap.size ≤ gr) (hne : Br ≠ gr)
    (h0 : ∀ B0, W.heap.size ≤ B0 → J B0 [] W) :
    CallsIn Fence.wide nf Try.prog 39 #[.func (.yield l) #[] #[], .pointer (some ⟨Br, 0, none⟩)] W fun e W' => (∃ v, e = .returned v) ∧
      ((∃ B0, W.heap.size ≤ B0 ∧ J B0 (ysT A q er) W') ∨ (∃ pre x, pre ++ [x] <+: ysT A q er ∧ Jx (pre ++ [x]) W')) := by
  have HBt := hide hb
  have HB := hide hB
  have HT := hide hT
  have hbr : W.cell? ⟨Br, 0, none⟩ = some (.pointer (some ⟨gr, 0, none⟩)) := cell_of_row _ _ 0 _ _ _ hBr
  have HBr := hide hBr
  have HR := hide hR
  have hgrl : gr < W.heap.size := hR.lt
  have hbrl : Br < W.heap.size := (Array.getElem?_eq_some_iff.1 hBr).1
  clear hb hT hB hR hBr
  refine callsIn_of_wp Try.func39 rfl trivial ?_ rfl
  simp only [Try.ntmps39, List.size_toArray, List.length_cons, List.length_nil, Nat.reduceAdd, Nat.reduceSub, Array.replicate_succ, Array.replicate_zero, List.push_toArray, List.append_toArray, List.nil_append, List.cons_append]
  gi_wp2
  refine ⟨trivial, ?_⟩
  refine (callsIn_wide.2 (next_nx (A1 := []) (rest := A) (A := A) W (show RAt W gr (.slice ao L.length c) lo n ((6 : Nat) : Int) ((0 : Nat) : Int) (-1) from unhide HR) ((unhide HBt).below' (unhide HB)) hl hlo h6 (by simp) hn (by simpa using unhide HT) (by simp))).mono ?_
  rintro e W2 ⟨hG, b, y, fx, fe, hy, rfl, hN⟩
  have hs2 : W.heap.size ≤ W2.heap.size := hG.size
  have HJ2 : Hid (J (W2.heap.size + 2) [] W2) := hide (hJ _ _ _ _ _ (h0 _ (by omega)) hG (fun r e => .inl (by injection e with e; exact e.symm)))
  have HB2 : Hid (Below w0.heap.size w0 W2) := hide ((unhide HB).trans (below_grown hG (unhide HB).size (fun k e => by injection e with e; omega)))
  have HBr2 : Hid (W2.heap[Br]? = some (.cells #[.pointer (some ⟨gr, 0, none⟩)] 56 (0, 0))) := hide ((hG.block Br hbrl (fun e => by injection e with e; omega)).trans (unhide HBr))
  have HN2 := hide hN
  clear hG hN HB HR HBr h0 hbr HT
  have al1 : W2.grownBy (W2.alloc (.cells (enA enZ) 42)) none := World.grownBy_alloc _ _ _
  have al2 : (W2.alloc (.cells (enA enZ) 42)).grownBy ((W2.alloc (.cells (enA enZ) 42)).alloc (.cells #[.int .i64 0, .int .i64 0] 58)) none := World.grownBy_alloc _ _ _
  have bel2 : Below W2.heap.size W2 ((W2.alloc (.cells (enA enZ) 42)).alloc (.cells #[.int .i64 0, .int .i64 0] 58)) := ((Below.refl _ _).alloc (Nat.le_refl _) _).alloc (by simp) _
  have HJ3 : Hid (J (W2.heap.size + 2) [] ((W2.alloc (.cells (enA enZ) 42)).alloc (.cells #[.int .i64 0, .int .i64 0] 58))) := hide (hJ _ _ _ _ _ (hJ _ _ _ _ _ (unhide HJ2) al1 (fun r e => by cases e)) al2 (fun r e => by cases e))
  have HE3 : Hid (EAt ((W2.alloc (.cells (enA enZ) 42)).alloc (.cells #[.int .i64 0, .int .i64 0] 58)) W2.heap.size enZ) := hide ((EAt.new W2 enZ).below ((Below.refl _ _).alloc (Nat.le_refl _) _) (by simp))
  have HF3 : Hid (FtAt ((W2.alloc (.cells (enA enZ) 42)).alloc (.cells #[.int .i64 0, .int .i64 0] 58)) (W2.heap.size + 1) 0 0) := hide (by
    have := heap_alloc_new (W2.alloc (.cells (enA enZ) 42)) (.cells #[.int .i64 0, .int .i64 0] 58)
    rw [World.size_alloc] at this
    exact this)
  have hgr2 : gr < W2.heap.size := by omega
  have HN3 := hide ((unhide HN2).move (bel2.block gr hgr2))
  have HB3 := hide ((unhide HB2).trans (bel2.mono (unhide HB2).size))
  have HBr3 := hide ((bel2.block Br (by omega)).trans (unhide HBr2))
  have hs3 : ((W2.alloc (.cells (enA enZ) 42)).alloc (.cells #[.int .i64 0, .int .i64 0] 58)).heap.size = W2.heap.size + 2 := by simp
  clear al1 al2 bel2 HJ2 HN2 HB2 HBr2
  -- a store into both boxes keeps all
  have HST : Hid (∀ (W3 : World) (gx gy : Nat) (A1 : List (En × Nat)) (b : Bool) (y y' : En) (fx fe fx' fe' : Int), W.heap.size ≤ gx → gx + 1 = gy → gy < W3.heap.size → J (gy + 1) (ysA A1) W3 → EAt W3 gx y' → FtAt W3 gy fx' fe' → Nx2 ao c L lo n gr A q er A1 b y fx fe W3 → Below w0.heap.size w0 W3 → W3.heap[Br]? = some (.cells #[.pointer (some ⟨gr, 0, none⟩)] 56 (0, 0)) →
      FtAt (W3.setRow gx (enA y)) gy fx' fe' ∧ J (gy + 1) (ysA A1) ((W3.setRow gx (enA y)).setRow gy #[.int .i64 fx, .int .i64 fe]) ∧ EAt ((W3.setRow gx (enA y)).setRow gy #[.int .i64 fx, .int .i64 fe]) gx y ∧ FtAt ((W3.setRow gx (enA y)).setRow gy #[.int .i64 fx, .int .i64 fe]) gy fx fe ∧ Nx2 ao c L lo n gr A q er A1 b y fx fe ((W3.setRow gx (enA y)).setRow gy #[.int .i64 fx, .int .i64 fe]) ∧ Below w0.heap.size w0 ((W3.setRow gx (enA y)).setRow gy #[.int .i64 fx, .int .i64 fe]) ∧ ((W3.setRow gx (enA y)).setRow gy #[.int .i64 fx, .int .i64 fe]).heap[Br]? = some (.cells #[.pointer (some ⟨gr, 0, none⟩)] 56 (0, 0)) ∧ W3.heap.size ≤ ((W3.setRow gx (enA y)).setRow gy #[.int .i64 fx, .int .i64 fe]).heap.size) := hide (by
    intro W3 gx gy A1 b y y' fx fe fx' fe' h1 h2 h3 hj he hf hnx hbl hbr
    have g1 := grown_setRow W3 gx (enA y)
    have g2 := grown_setRow (W3.setRow gx (enA y)) gy #[.int .i64 fx, .int .i64 fe]
    have o1 : FtAt (W3.setRow gx (enA y)) gy fx' fe' := (setRow_other W3 gx gy (enA y) (by omega)).trans hf
    have hwl := hbl.size
    refine ⟨o1, hJ _ _ _ _ _ (hJ _ _ _ _ _ hj g1 (fun r e => .inr (by injection e with e; omega))) g2 (fun r e => .inr (by injection e with e; omega)), (setRow_other _ gy gx _ (by omega)).trans (he.row y), setRow_heap _ _ _ _ _ _ o1, hnx.move ((setRow_other _ gy gr _ (by omega)).trans (setRow_other _ gx gr _ (by omega))), below_setRow' (below_setRow' hbl (by omega) _) (by omega) _, (setRow_other _ gy Br _ (by omega)).trans ((setRow_other _ gx Br _ (by omega)).trans hbr), by simp⟩)
  obtain ⟨a1, a2, a3, a4, a5, a6, a7, a8⟩ := unhide HST _ W2.heap.size (W2.heap.size + 1) [] b y enZ fx fe 0 0 hs2 rfl (by omega) (unhide HJ3) (unhide HE3) (unhide HF3) (unhide HN3) (unhide HB3) (unhide HBr3)
  have A1' := hide a1
  have A2 := hide a2
  have A3 := hide a3
  have A4 := hide a4
  have A5 := hide a5
  have A6 := hide a6
  have A7 := hide a7
  rw [hs3] at a8
  clear a1 a2 a3 a4 a5 a6 a7
  unfold ftV
  gi_wp2_with (first | (refine wpListIn_store_s rfl 42 (.tmp 3) (.tmp 9) rfl W2.heap.size (enA y) rfl rfl 42 (enA enZ) (unhide HE3) (sizeEn hy) (sizeEqEn enZ_ok hy) (enA_one _) ?_) | (refine wpListIn_store_s rfl 58 (.tmp 5) (.tmp 11) rfl (W2.heap.size + 1) #[.int .i64 fx, .int .i64 fe] rfl rfl 58 #[.int .i64 0, .int .i64 0] (unhide A1') (by kernel_rfl) rfl (by simp [Value.oneCell']) ?_))
  rw [enZ_eq]
  obtain ⟨gx, hgx⟩ : ∃ gx, W2.heap.size = gx := ⟨_, rfl⟩
  generalize ((((W2.alloc (.cells (enA enZ) 42)).alloc (.cells #[.int .i64 0, .int .i64 0] 58)).setRow W2.heap.size (enA y)).setRow (W2.heap.size + 1) #[.int .i64 fx, .int .i64 fe]) = W4 at A2 A3 A4 A5 A6 A7 a8 ⊢
  clear A1' HJ3 HE3 HF3 HN3 HB3 HBr3 hs3
  rw [hgx] at A2 A3 A4 a8 hs2 ⊢
  clear hgx hgr2 W2
  go_simp
  gi_loopw [4] (fun bv wr => ∃ (A1 : List (En × Nat)) (b : Bool) (y : En) (fx fe : Int), bv = .bool b ∧ FrOk y.fr ∧ gx + 2 ≤ wr.heap.size ∧ Hid (Nx2 ao c L lo n gr A q er A1 b y fx fe wr) ∧ Hid (EAt wr gx y) ∧ Hid (FtAt wr (gx + 1) fx fe) ∧ Hid (J (gx + 1 + 1) (ysA A1) wr) ∧ Hid (Below w0.heap.size w0 wr) ∧ Hid (wr.heap[Br]? = some (.cells #[.pointer (some ⟨gr, 0, none⟩)] 56 (0, 0)))) (fun bv wr => (n + 1 - tN wr gr) * 2 + bN bv)
  case atStart => exact ⟨[], b, y, fx, fe, rfl, hy, a8, A5, A3, A4, A2, A6, A7⟩
  case round =>
    clear A2 A3 A4 A5 A6 A7 a8 hy W4
    obtain ⟨A1, b, y, fx, fe, rfl, hy, hsz, HN, HE, HF, HJ, HB, HBr⟩ := hrel
    rcases unhide HN with ⟨rfl, rfl, rfl, m, rest, hA, hm, hk, hRA, hT⟩ | ⟨rfl, rfl, rfl, e2, rfl, p, ahead, hRA⟩
    · have htn : tN wr gr = A1.length + 1 := tN_of hRA
      obtain ⟨fn, tmps, assign, body, hyy, hRr⟩ := hY _ (ysA A1) (y, 0, 0) wr (unhide HJ) (by omega) (by omega) ⟨ysA rest ++ (if er = 0 then [] else [(enZ, (q : Int), er)]), by rw [ysT, hA]; simp [ysA]⟩ hy
      have HRA := hide hRA
      have HTT := hide hT
      have HA := hide hA
      clear hRA hT hA HN
      unfold encY ftV at hyy
      simp only at hyy
      gi_wp2_with (first | (refine wpListIn_load_g (by kernel_rfl) 42 (.tmp 3) rfl gx rfl 42 (enA y) (0, 0) _ (unhide HE) Try.underlying42 rfl (sizeEn hy) ?_) | (refine wpListIn_load_g (by kernel_rfl) 58 (.tmp 5) rfl (gx + 1) rfl 58 #[.int .i64 0, .int .i64 0] (0, 0) _ (unhide HF) Try.underlying58 rfl (by kernel_rfl) ?_))
      refine hRr.mono ?_
      rintro e W3 (⟨rfl, hJ3, hk3⟩ | ⟨rfl, hJx3⟩)
      · have hbr3 : W3.heap[Br]? = some (.cells #[.pointer (some ⟨gr, 0, none⟩)] 56 (0, 0)) := hk3.bx.trans (unhide HBr)
        have hcb : W3.cell? ⟨Br, 0, none⟩ = some (.pointer (some ⟨gr, 0, none⟩)) := cell_of_row _ _ 0 _ _ _ hbr3
        have HR3 : Hid (RAt W3 gr (.slice ao L.length c) lo n (m : Int) (((A1 ++ [(y, m)]).length : Nat) : Int) y.at_) := hide (by rw [List.length_append]; exact hk3.rd.trans (unhide HRA))
        have HE3 : Hid (EAt W3 gx y) := hide ((hk3.own gx (by omega) (by omega)).trans (unhide HE))
        have HF3 : Hid (FtAt W3 (gx + 1) 0 0) := hide ((hk3.own (gx + 1) (by omega) (by omega)).trans (unhide HF))
        have HB3 := hide ((unhide HB).trans hk3.bel)
        have hs3 : wr.heap.size ≤ W3.heap.size := hk3.bel.size
        have HJ3 : Hid (J (gx + 1 + 1) (ysA (A1 ++ [(y, m)])) W3) := hide (by rw [ysA_one]; exact hJ3)
        have HBr3 := hide hbr3
        have HNX := hide (next_nx (A1 := A1 ++ [(y, m)]) (rest := rest) (A := A) W3 (unhide HR3) ((unhide HBt).below' (unhide HB3)) hl hlo hm (by simp; omega) hn (by rw [List.length_append]; exact unhide HTT) (by rw [unhide HA]; simp))
        clear hk3 hJ3 hbr3 HR3 HE HF HB HJ HBr hRr hyy HRA HTT
        gi_wp2
        refine ⟨trivial, ?_⟩
        refine (callsIn_wide.2 (unhide HNX)).mono ?_
        rintro e W5 ⟨hG, b', y', fx', fe', hy', rfl, hN⟩
        have hs5 : W3.heap.size ≤ W5.heap.size := hG.size
        have HJ5 := hide (hJ _ _ _ _ _ (unhide HJ3) hG (fun r e => .inl (by injection e with e; exact e.symm)))
        have HE5 := hide ((hG.block gx (by omega) (fun e => by injection e with e; omega)).trans (unhide HE3))
        have HF5 := hide ((hG.block (gx + 1) (by omega) (fun e => by injection e with e; omega)).trans (unhide HF3))
        have HB5 := hide ((unhide HB3).trans (below_grown hG (unhide HB3).size (fun k e => by injection e with e; omega)))
        have HBr5 := hide ((hG.block Br (by omega) (fun e => by injection e with e; omega)).trans (unhide HBr3))
        obtain ⟨a1, a2, a3, a4, a5, a6, a7, a8⟩ := unhide HST W5 gx (gx + 1) (A1 ++ [(y, m)]) b' y' y fx' fe' 0 0 hs2 rfl (by omega) (unhide HJ5) (unhide HE5) (unhide HF5) hN (unhide HB5) (unhide HBr5)
        have A1' := hide a1
        have A2 := hide a2
        have A3 := hide a3
        have A4 := hide a4
        have A5 := hide a5
        have A6 := hide a6
        have A7 := hide a7
        clear a1 a2 a3 a4 a5 a6 a7 HNX HJ3 HE3 HF3 HB3 HBr3 hN hG HJ5 HB5 HBr5 hcb
        unfold ftV
        gi_wp2_with (first | (refine wpListIn_store_s rfl 42 (.tmp 3) (.tmp 22) rfl gx (enA y') rfl rfl 42 (enA y) (unhide HE5) (sizeEn hy') (sizeEqEn hy hy') (enA_one _) ?_) | (refine wpListIn_store_s rfl 58 (.tmp 5) (.tmp 24) rfl (gx + 1) #[.int .i64 fx', .int .i64 fe'] rfl rfl 58 #[.int .i64 0, .int .i64 0] (unhide A1') (by kernel_rfl) rfl (by simp [Value.oneCell']) ?_; simp only [Act.put]))
        generalize ((W5.setRow gx (enA y')).setRow (gx + 1) #[.int .i64 fx', .int .i64 fe']) = W6 at A2 A3 A4 A5 A6 A7 a8 ⊢
        go_roundw
        case rel => exact ⟨A1 ++ [(y, m)], b', y', fx', fe', rfl, hy', by omega, A5, A3, A4, A2, A6, A7⟩
        case measure =>
          rw [htn]
          rcases unhide A5 with ⟨rfl, _, _, _, _, _, _, hk', hr', _⟩ | ⟨rfl, _, _, _, _, _, _, hr'⟩
          · rw [tN_of hr']
            rw [List.length_append] at hk' ⊢
            simp only [List.length_cons, List.length_nil] at hk' ⊢
            simp [bN]
            omega
          · rw [tN_of hr', List.length_append]
            simp [bN]
      · clear hRr hyy
        gi_wp2
        go_end0
        exact ⟨⟨_, rfl⟩, .inr ⟨ysA A1, (y, 0, 0), ⟨ysA rest ++ (if er = 0 then [] else [(enZ, (q : Int), er)]), by rw [ysT, unhide HA]; simp [ysA]⟩, hJx3⟩⟩
    · have e2' := e2.symm
      subst e2'
      clear hRA HN
      have hc1 : wr.cell? ⟨gx + 1, 1, none⟩ = some (.int .i64 er) := FtAt.c1 (unhide HF)
      by_cases he : er = 0
      · subst he
        gi_wp2
        refine ⟨fun _ h => (by cases h), ?_⟩
        gi_wp2
        go_end0
        exact ⟨⟨_, rfl⟩, .inl ⟨gx + 1 + 1, by omega, by rw [ysT, if_pos rfl]; simpa using unhide HJ⟩⟩
      · have b1 : (er != 0) = true := bne_t he
        have hpre : ysA A ++ [((enZ, (q : Int), er) : Yd)] <+: ysT A q er := ⟨[], by rw [ysT, if_neg he]; simp⟩
        obtain ⟨fn, tmps, assign, body, hyy, hRr⟩ := hY _ (ysA A) (enZ, (q : Int), er) wr (unhide HJ) (by omega) (by omega) hpre hy
        have HER : Hid (ysT A q er = ysA A ++ [((enZ, (q : Int), er) : Yd)]) := hide (by rw [ysT, if_neg he])
        have HPR := hide hpre
        unfold encY ftV at hyy
        simp only at hyy
        clear hpre he
        gi_wp2
        refine ⟨fun _ h => (by cases h), ?_⟩
        gi_wp2_with (first | (refine wpListIn_load_s rfl 42 (.tmp 3) rfl gx rfl 42 (enA enZ) (0, 0) _ (unhide HE) Try.underlying42 rfl (sizeEn hy) ?_) | (refine wpListIn_load_s rfl 58 (.tmp 5) rfl (gx + 1) rfl 58 #[.int .i64 (q : Int), .int .i64 er] (0, 0) _ (unhide HF) Try.underlying58 rfl (by kernel_rfl) ?_))
        refine hRr.mono ?_
        rintro e W3 (⟨rfl, hJ3, _⟩ | ⟨rfl, hJx3⟩)
        · gi_wp2
          go_end0
          exact ⟨⟨_, rfl⟩, .inl ⟨gx + 1 + 1, by omega, by rw [unhide HER]; exact hJ3⟩⟩
        · gi_wp2
          go_end0
          exact ⟨⟨_, rfl⟩, .inr ⟨_, _, unhide HPR, hJx3⟩⟩
end Go.Proofs.Ytednnfmomhallaa
