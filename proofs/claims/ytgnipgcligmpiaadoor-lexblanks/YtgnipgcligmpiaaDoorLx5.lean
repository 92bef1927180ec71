/-
  Tokens: the contracts of lex.mark, lex.number and lex.word.
-/
import Derived.Test.YtgnipgcligmpiaaDoorLx4
import Derived.Test.YtgnipgcligmpiaaDoorWnT
import Derived.Test.YtgnipgcligmpiaaDoorLayCln
import Derived.Laws.Tables
import Derived.Laws.ResultCell
import Derived.Deep.WholeRow
namespace Go.Proofs.YtgnipgcligmpiaaDoor
open Go.RowKit
set_option maxRecDepth 20000

structure Tk where
  k : Int
  a : Int
  e : Int
  n : Int
  t : ByteArray
def tkA (x : Tk) : Array Value := #[.int .i64 x.k, .int .i64 x.a, .int .i64 x.e, .int .i64 x.n, .string x.t]
def tkZ : Tk := ⟨0, 0, 0, 0, ⟨#[]⟩⟩
def TkAt (W : World) (g : Nat) (x : Tk) : Prop := W.heap[g]? = some (.cells (tkA x) 34 (0, 0))
theorem TkAt.lt {W : World} {g : Nat} {x : Tk} (h : TkAt W g x) : g < W.heap.size := (Array.getElem?_eq_some_iff.1 h).1
theorem TkAt.below {W W' : World} {g : Nat} {x : Tk} (h : TkAt W g x) (hb : Below W.heap.size W W') : TkAt W' g x := (hb.block g h.lt).trans h
theorem TkAt.c0 {W : World} {g : Nat} {x : Tk} (h : TkAt W g x) : W.cell? ⟨g, 0, none⟩ = some (.int .i64 x.k) := cell_of_row _ _ 0 _ _ _ h
theorem TkAt.c1 {W : World} {g : Nat} {x : Tk} (h : TkAt W g x) : W.cell? ⟨g, 1, none⟩ = some (.int .i64 x.a) := cell_of_row _ _ 1 _ _ _ h
theorem TkAt.c2 {W : World} {g : Nat} {x : Tk} (h : TkAt W g x) : W.cell? ⟨g, 2, none⟩ = some (.int .i64 x.e) := cell_of_row _ _ 2 _ _ _ h
theorem TkAt.c3 {W : World} {g : Nat} {x : Tk} (h : TkAt W g x) : W.cell? ⟨g, 3, none⟩ = some (.int .i64 x.n) := cell_of_row _ _ 3 _ _ _ h
theorem TkAt.c4 {W : World} {g : Nat} {x : Tk} (h : TkAt W g x) : W.cell? ⟨g, 4, none⟩ = some (.string x.t) := cell_of_row _ _ 4 _ _ _ h
theorem TkAt.f {W : World} {g : Nat} {x : Tk} (h : TkAt W g x) (i : Nat) : W.frozen? ⟨g, i, none⟩ = false := frozen_of_row _ _ _ _ _ h
theorem TkAt.other {W : World} {g k i : Nat} {x : Tk} (h : TkAt W g x) (hne : g ≠ k) (v : Value) : TkAt (W.setCell ⟨k, i, none⟩ v) g x := (Below.heap_setCell W ⟨k, i, none⟩ v g (fun e => hne e)).trans h
theorem TkAt.row {W : World} {g : Nat} {x : Tk} (h : TkAt W g x) (y : Tk) : TkAt (W.setRow g (tkA y)) g y := setRow_heap _ _ _ _ _ _ h
theorem TkAt.rowOther {W : World} {g k : Nat} {x : Tk} (h : TkAt W k x) (cs : Array Value) (hne : k ≠ g) : TkAt (W.setRow g cs) k x := (setRow_other W g k _ hne).trans h
theorem sizeTk : (Tryd.prog.info? 34).map (·.size) = some 5 := by kernel_rfl
theorem TkAt.set0 {W : World} {g : Nat} {x : Tk} (h : TkAt W g x) (v : Int) : TkAt (W.setCell ⟨g, 0, none⟩ (.int .i64 v)) g { x with k := v } := by
  unfold TkAt at h ⊢
  simp only [World.setCell, Array.getElem?_modify, if_true, h]
  rfl
theorem TkAt.set2 {W : World} {g : Nat} {x : Tk} (h : TkAt W g x) (v : Int) : TkAt (W.setCell ⟨g, 2, none⟩ (.int .i64 v)) g { x with e := v } := by
  unfold TkAt at h ⊢
  simp only [World.setCell, Array.getElem?_modify, if_true, h]
  rfl
theorem run_addrT (W : World) (g : Nat) : (asAddr (.pointer (some ⟨g, 0, none⟩))).run Tryd.prog W = .ok ⟨g, 0, none⟩ W := rfl
theorem results_tk2 {fn : Func} {q u : Tmp} (h : fn.results = #[.cell q 34, .tmp u]) (tmps : Array Value) (W : World) (g : Nat) (x : Tk) (e : Int)
    (hp : tmps.getD q undef = .pointer (some ⟨g, 0, none⟩)) (hu : tmps.getD u undef = .int .i64 e) (hg : TkAt W g x) : (results fn tmps).run Tryd.prog W = .ok (.tuple #[.agg (tkA x), .int .i64 e]) W := by
  rw [results_cell_tmp h, hp, hu, run_addrT, Result.andThen_ok, run_loadVar_row W g 34 34 (tkA x) (0, 0) _ hg Tryd.underlying34 rfl sizeTk, Result.andThen_ok]
theorem below_row {B : Nat} {w W : World} (h : Below B w W) {g : Nat} (hg : B ≤ g) (cs : Array Value) : Below B w (W.setRow g cs) := by
  refine h.trans ⟨rfl, rfl, rfl, by simp, fun k hk => setRow_other W g k cs (by omega)⟩
theorem mkS_zero (s : ByteArray) (p : Nat) : ∀ k, (mkS s p k).1 = 0 ↔ (mkS s p k).2 = 0
  | 0 => by unfold mkS; simp
  | k + 1 => by
    have ih := mkS_zero s p k
    unfold mkS
    split
    · rename_i h
      simp only
      omega
    · exact ih
def mkE (s : ByteArray) (p : Nat) : Int := if (mkS s p 25).2 = 0 then 100 else 0
def mkT (s : ByteArray) (p : Nat) : Tk := if (mkS s p 25).2 = 0 then tkZ else ⟨(mkS s p 25).1, p, (p + (mkS s p 25).2 : Nat), 0, ⟨#[]⟩⟩

set_option maxRecDepth 20000 in
set_option maxHeartbeats 4000000 in
theorem lexMark_any (s : ByteArray) (p : Nat) (w : World) (hW : SpAt w) (hp : p ≤ s.size) (hs : s.size ≤ 140737488351232) :
    Calls Tryd.prog 29 #[.string s, .int .i64 (p : Int)] w fun e w' => e = .returned (.tuple #[.agg (tkA (mkT s p)), .int .i64 (mkE s p)]) ∧ Below w.heap.size w w' := by
  have HW := hide hW
  have n1 : Hid (TkAt ((w.alloc (.cells (tkA tkZ) 34)).alloc (.cells (tkA ⟨0, p, p, 0, ⟨#[]⟩⟩) 34)) w.heap.size tkZ) := hide ((((Below.refl _ _).alloc (Nat.le_refl _) _).block w.heap.size (by simp)).trans (heap_alloc_new w _))
  have n2 : Hid (TkAt ((w.alloc (.cells (tkA tkZ) 34)).alloc (.cells (tkA ⟨0, p, p, 0, ⟨#[]⟩⟩) 34)) (w.heap.size + 1) ⟨0, p, p, 0, ⟨#[]⟩⟩) := hide (by
    have := heap_alloc_new (w.alloc (.cells (tkA tkZ) 34)) (.cells (tkA ⟨0, p, p, 0, ⟨#[]⟩⟩) 34)
    rw [World.size_alloc] at this
    exact this)
  have HB : Hid (Below w.heap.size w ((w.alloc (.cells (tkA tkZ) 34)).alloc (.cells (tkA ⟨0, p, p, 0, ⟨#[]⟩⟩) 34))) := hide (((Below.refl _ _).alloc (Nat.le_refl _) _).alloc (by simp) _)
  clear hW
  unfold tkA tkZ at n1 n2 HB
  simp only at n1 n2 HB
  go_enter Tryd.func29, Tryd.ntmps29
  go_upto_region 2 with fail
  generalize ((w.alloc (.cells #[.int .i64 0, .int .i64 0, .int .i64 0, .int .i64 0, .string ⟨#[]⟩] 34)).alloc (.cells #[.int .i64 0, .int .i64 ((p : Nat) : Int), .int .i64 ((p : Nat) : Int), .int .i64 0, .string ⟨#[]⟩] 34)) = W1 at n1 n2 HB ⊢
  have HZ : Hid (mkE s p = (if (mkS s p 25).2 = 0 then 100 else 0) ∧ mkT s p = if (mkS s p 25).2 = 0 then tkZ else ⟨(mkS s p 25).1, p, (p + (mkS s p 25).2 : Nat), 0, ⟨#[]⟩⟩) := hide ⟨rfl, rfl⟩
  go_wp2
  go_loopw [7] (fun i wr => ∃ k bb zz : Nat, k ≤ 25 ∧ i = .int .i64 ((25 + k : Nat) : Int) ∧ Hid (mkS s p k = (bb, zz)) ∧ Hid (TkAt wr w.heap.size tkZ) ∧ Hid (TkAt wr (w.heap.size + 1) ⟨bb, p, (p + zz : Nat), 0, ⟨#[]⟩⟩) ∧ Hid (Below w.heap.size w wr)) (fun i _ => 50 - (intOf i).toNat)
  case atStart => exact ⟨0, 0, 0, by omega, rfl, hide rfl, n1, n2, HB⟩
  case round =>
    clear n1 n2 HB
    obtain ⟨k, bb, zz, hk, rfl, HM, H4, H6, HB⟩ := hrel
    have hz8 : zz ≤ 8 := by have := (mkS_le s p k).1; rw [unhide HM] at this; exact this
    have hbb : bb < 100 := by have := (mkS_le s p k).2; rw [unhide HM] at this; omega
    have hlt : w.heap.size + 1 < wr.heap.size := (unhide H6).lt
    by_cases hkl : k < 25
    · have j1 : ((25 + k : Nat) : Int) ≤ 49 := by omega
      have j2 : ((25 + k : Nat) : Int) < 50 := by omega
      have hsp := ((unhide HW).below (unhide HB)).cell (25 + k) (by omega)
      have ht8 := wK_size (25 + k)
      obtain ⟨t, HT⟩ : ∃ t, Hid (wK (25 + k) = t) := ⟨_, hide rfl⟩
      rw [unhide HT] at hsp ht8
      have d2 := (unhide H6).c2
      simp only at d2
      have HPre : Hid (∀ W, Calls Tryd.prog 16 #[.string (s.extract p s.size), .string t] W fun e w' => e = .returned (.bool (preD t s p)) ∧ w' = W) := hide (fun W => Any.strings_HasPrefix Tryd.laysPre (s.extract p s.size) t W)
      by_cases h1 : zz < t.size
      · have b1 : ((p : Nat) : Int) + ((t.size : Nat) : Int) > ((p + zz : Nat) : Int) := by omega
        cases h2 : preD t s p
        · have HN := hide (mkS_no (unhide HT) (unhide HM) (fun h => by rw [h2] at h; cases h.2))
          rw [h2] at HPre
          clear h2
          go_wp2
          go_quiet ((go_at_call 16; with_reducible exact Calls.quiet_of_same (unhide HPre _)))
          have H4q : Hid (TkAt (wr.drewN nq) w.heap.size tkZ) := hide (unhide H4)
          have H6q : Hid (TkAt (wr.drewN nq) (w.heap.size + 1) ⟨bb, p, (p + zz : Nat), 0, ⟨#[]⟩⟩) := hide (unhide H6)
          have HBq := hide (belowD (unhide HB) nq)
          go_wp2
          go_roundw
          case rel => exact ⟨k + 1, bb, zz, by omega, by go_num, HN, H4q, H6q, HBq⟩
          case measure => simp [intOf]; omega
        · have HY := hide (mkS_yes (unhide HT) (unhide HM) h1 h2)
          rw [h2] at HPre
          clear h2
          go_wp2
          go_quiet ((go_at_call 16; with_reducible exact Calls.quiet_of_same (unhide HPre _)))
          have H4q : Hid (TkAt (wr.drewN nq) w.heap.size tkZ) := hide (unhide H4)
          have H6q : Hid (TkAt (wr.drewN nq) (w.heap.size + 1) ⟨bb, p, (p + zz : Nat), 0, ⟨#[]⟩⟩) := hide (unhide H6)
          have HBq := hide (belowD (unhide HB) nq)
          clear d2 hsp
          generalize wr.drewN nq = W2 at H4q H6q HBq ⊢
          have d0 := (unhide H6q).c0
          have d2 := (unhide H6q).c2
          have f0 := (unhide H6q).f 0
          have f2 := (unhide H6q).f 2
          simp only at d0 d2
          have H6s := hide (((unhide H6q).set0 ((25 + k : Nat) : Int)).set2 ((p + t.size : Nat) : Int))
          have H4s := hide (((unhide H4q).other (k := w.heap.size + 1) (i := 0) (by omega) (.int .i64 ((25 + k : Nat) : Int))).other (k := w.heap.size + 1) (i := 2) (by omega) (.int .i64 ((p + t.size : Nat) : Int)))
          have HBs := hide (((unhide HBq).setCell (p := ⟨w.heap.size + 1, 0, none⟩) (by simp) (.int .i64 ((25 + k : Nat) : Int))).setCell (p := ⟨w.heap.size + 1, 2, none⟩) (by simp) (.int .i64 ((p + t.size : Nat) : Int)))
          have e1 : 25 + ((k : Nat) : Int) = ((25 + k : Nat) : Int) := by omega
          have e2 : ((p : Nat) : Int) + ((t.size : Nat) : Int) = ((p + t.size : Nat) : Int) := by omega
          have HE1 := hide e1
          have HE2 := hide e2
          clear e1 e2
          go_wp2
          go_roundw
          case rel =>
            refine ⟨k + 1, 25 + k, t.size, by omega, by go_num, HY, ?_, ?_, ?_⟩
            · rw [unhide HE1, unhide HE2]; exact H4s
            · rw [unhide HE1, unhide HE2]; exact H6s
            · rw [unhide HE1, unhide HE2]; exact HBs
          case measure => simp [intOf]; omega
      · have b1 : ¬ ((p : Nat) : Int) + ((t.size : Nat) : Int) > ((p + zz : Nat) : Int) := by omega
        have HN := hide (mkS_no (unhide HT) (unhide HM) (fun h => h1 h.1))
        go_wp2
        go_quiet ((go_at_call 16; with_reducible exact Calls.quiet_of_same (unhide HPre _)))
        have H4q : Hid (TkAt (wr.drewN nq) w.heap.size tkZ) := hide (unhide H4)
        have H6q : Hid (TkAt (wr.drewN nq) (w.heap.size + 1) ⟨bb, p, (p + zz : Nat), 0, ⟨#[]⟩⟩) := hide (unhide H6)
        have HBq := hide (belowD (unhide HB) nq)
        go_wp2
        go_roundw
        case rel => exact ⟨k + 1, bb, zz, by omega, by go_num, HN, H4q, H6q, HBq⟩
        case measure => simp [intOf]; omega
    · obtain rfl : k = 25 := by omega
      have d0 := (unhide H6).c0
      simp only at d0
      rw [unhide HM] at HZ
      simp only at HZ
      have HMz : Hid (bb = 0 ↔ zz = 0) := hide (by have := mkS_zero s p 25; rw [unhide HM] at this; exact this)
      by_cases hb0 : bb = 0
      · have b0 : (((bb : Nat) : Int) == 0) = true := by rw [hb0]; rfl
        have hz0 := (unhide HMz).1 hb0
        rw [hz0] at HZ
        clear hb0 hz0
        go_wp2_with (refine wpList_store_row rfl 34 (.tmp 4) (.tmp 42) rfl w.heap.size (tkA tkZ) rfl rfl 34 (tkA tkZ) (unhide H4) (by kernel_rfl) rfl (by simp [tkA, tkZ, Value.oneCell']) ?_)
        refine bodyPost_ret (v := .tuple #[.agg (tkA (mkT s p)), .int .i64 (mkE s p)]) ?_ rfl ⟨rfl, below_row (unhide HB) (Nat.le_refl _) _⟩
        have hE : mkE s p = 100 := by rw [(unhide HZ).1]; rfl
        have hT : mkT s p = tkZ := by rw [(unhide HZ).2]; rfl
        rw [hE, hT]
        exact results_tk2 rfl _ _ w.heap.size tkZ 100 rfl rfl ((unhide H4).row tkZ)
      · have b0 : (((bb : Nat) : Int) == 0) = false := by simp; omega
        have hz0 : ¬ zz = 0 := fun h => hb0 ((unhide HMz).2 h)
        obtain ⟨x, HX⟩ : ∃ x : Tk, Hid ((⟨bb, p, (p + zz : Nat), 0, ⟨#[]⟩⟩ : Tk) = x) := ⟨_, hide rfl⟩
        rw [if_neg hz0, if_neg hz0, unhide HX] at HZ
        rw [unhide HX] at H6
        clear hb0 hz0
        go_wp2_with (first | (refine wpList_load_row rfl 34 (.tmp 6) rfl (w.heap.size + 1) rfl 34 (tkA x) (0, 0) _ (unhide H6) Tryd.underlying34 rfl (by kernel_rfl) ?_) | (refine wpList_store_row rfl 34 (.tmp 4) (.tmp 43) rfl w.heap.size (tkA x) rfl rfl 34 (tkA tkZ) (unhide H4) (by kernel_rfl) rfl (by simp [tkA, Value.oneCell']) ?_))
        refine bodyPost_ret (v := .tuple #[.agg (tkA (mkT s p)), .int .i64 (mkE s p)]) ?_ rfl ⟨rfl, below_row (unhide HB) (Nat.le_refl _) _⟩
        rw [(unhide HZ).1, (unhide HZ).2]
        exact results_tk2 rfl _ _ w.heap.size x 0 rfl rfl ((unhide H4).row x)
end Go.Proofs.YtgnipgcligmpiaaDoor
