/-
  The reference's Decode, At and Find of a certificate. Conditions: lengths fit.
-/
import Derived.Test.YthejnhdabokhjaaCrd
import Derived.Test.YthejnhdabokhjaaWalkCertReads
namespace Go.Proofs.Ythejnhdabokhjaa
open Go.RowKit

set_option maxHeartbeats 1000000 in
theorem Told_bad (ao : Option Addr) (c : Nat) (L : List UInt8) (w : World) (hb : BAt w ao L) (hl : L.length ≤ 140737488355328) (hh : (hdE L).2 ≠ 0) :
    Calls Try.prog 24 #[.slice ao L.length c] w fun e w' => e = .returned (.tuple #[.slice none 0 0, .slice none 0 0, .int .i64 ((hdE L).1 : Int), .int .i64 (hdE L).2]) ∧ Below w.heap.size w w' := by
  have HH := hide (refHead_any ao c L w hb hl)
  rw [hdV, if_neg hh] at HH
  have b1 : ((hdE L).2 != 0) = true := bne_t hh
  clear hb hh
  go_enter Try.func24, Try.ntmps24
  go_wp2_with fail
  refine (unhide HH).mono ?_
  rintro e W1 ⟨rfl, hB1⟩
  have HB := hide hB1
  clear hB1 HH
  go_wp2
  refine bodyPost_ret (results_tmp4 rfl _ _ _) rfl ⟨rfl, unhide HB⟩
/-- Place and error of a decoded certificate, and its entries. -/
def cdE (L : List UInt8) (lo n : Nat) : Nat × Int := if (hdE L).2 ≠ 0 then hdE L else if (tolD L lo n 6 (-1)).2.2 ≠ 0 then (tolD L lo n 6 (-1)).2 else (0, 0)
def cdS (L : List UInt8) (lo n : Nat) : List En := if (cdE L lo n).2 = 0 then enS (tolD L lo n 6 (-1)).1 else []
def cdL (L : List UInt8) (lo n : Nat) : Int := if (cdE L lo n).2 = 0 then lo else 0
/-- A certificate, in a block. -/
def CAt (W : World) (g : Nat) (l : Int) (v : Value) : Prop := W.heap[g]? = some (.cells #[.int .i64 l, v] 24 (0, 0))
theorem CAt.lt {W : World} {g : Nat} {l : Int} {v : Value} (h : CAt W g l v) : g < W.heap.size := (Array.getElem?_eq_some_iff.1 h).1
theorem CAt.c0 {W : World} {g : Nat} {l : Int} {v : Value} (h : CAt W g l v) : W.cell? ⟨g, 0, none⟩ = some (.int .i64 l) := cell_of_row _ _ 0 _ _ _ h
theorem CAt.c1 {W : World} {g : Nat} {l : Int} {v : Value} (h : CAt W g l v) : W.cell? ⟨g, 1, none⟩ = some v := cell_of_row _ _ 1 _ _ _ h
theorem CAt.f {W : World} {g : Nat} {l : Int} {v : Value} (h : CAt W g l v) (i : Nat) : W.frozen? ⟨g, i, none⟩ = false := frozen_of_row _ _ _ _ _ h
theorem run_loadC {W : World} {g : Nat} {l : Int} {v : Value} (h : CAt W g l v) : (loadVar 24 ⟨g, 0, none⟩).run Try.prog W = .ok (.agg #[.int .i64 l, v]) W :=
  run_loadVar_row W g 24 24 #[.int .i64 l, v] (0, 0) _ h Try.underlying24 rfl (by kernel_rfl)
theorem results_c2 {fn : Func} {p u v : Tmp} (h : fn.results = #[.cell p 24, .tmp u, .tmp v]) (tmps : Array Value) (W : World) (g : Nat) (l : Int) (s : Value)
    (hp : tmps.getD p undef = .pointer (some ⟨g, 0, none⟩)) (hg : CAt W g l s) :
    (results fn tmps).run Try.prog W = .ok (.tuple #[.agg #[.int .i64 l, s], tmps.getD u undef, tmps.getD v undef]) W := by
  rw [results_cell_tmp2 h, hp, run_addr, Result.andThen_ok, run_loadC hg, Result.andThen_ok]

theorem OwnE.mono {w : World} {b b' : Nat} {v : Value} {l : List En} (h : OwnE w b v l) (hb : b' ≤ b) : OwnE w b' v l := by
  rcases h with ⟨h1, h2 | ⟨g, cap, cur, a, h3, rest⟩⟩
  · exact ⟨h1, .inl h2⟩
  · exact ⟨h1, .inr ⟨g, cap, cur, a, Nat.le_trans hb h3, rest⟩⟩
theorem OwnE.rowBelow {w : World} {b : Nat} {v : Value} {l : List En} (h : OwnE w b v l) {k : Nat} (hk : k < b) (cs : Array Value) : OwnE (w.setRow k cs) b v l :=
  rows_grown h (⟨rfl, rfl, rfl, by simp, fun j _ hj => setRow_other w k j cs (fun e => hj (by rw [e]))⟩ : w.grownBy (w.setRow k cs) (some k)) (fun g e e2 => by have := (h.lt g e).1; injection e2 with e2; omega)

set_option maxRecDepth 20000 in
set_option maxHeartbeats 2000000 in
theorem refDecode_any (ao : Option Addr) (c : Nat) (L : List UInt8) (lo n : Nat) (w : World) (hb : BAt w ao L) (hl : L.length ≤ 140737488355328) (hlo : at8 L 3 = lo) (hn4 : wdD L 4 = n) :
    Calls Try.prog 18 #[.slice ao L.length c] w fun e w' => ∃ v, e = .returned (.tuple #[.agg #[.int .i64 (cdL L lo n), v], .int .i64 ((cdE L lo n).1 : Int), .int .i64 (cdE L lo n).2]) ∧ OwnE w' w.heap.size v (cdS L lo n) ∧ EsOk (cdS L lo n) ∧ Below w.heap.size w w' := by
  have HBt := hide hb
  have hal := ((Below.refl w.heap.size w).alloc (Nat.le_refl _) (.cells #[.int .i64 0, .slice none 0 0] 24))
  have HA := hide hal
  have HC : Hid (CAt (w.alloc (.cells #[.int .i64 0, .slice none 0 0] 24)) w.heap.size 0 (.slice none 0 0)) := hide (heap_alloc_new w _)
  have hsz : (w.alloc (.cells #[.int .i64 0, .slice none 0 0] 24)).heap.size = w.heap.size + 1 := by simp
  clear hb hal
  go_enter Try.func18, Try.ntmps18
  go_wp2_with fail
  generalize (w.alloc (.cells #[.int .i64 0, .slice none 0 0] 24)) = W0 at HA HC hsz ⊢
  by_cases hh : (hdE L).2 = 0
  · obtain ⟨h6, h16, h4k⟩ := mkE_good 3 0 hh
    have hl16 : lo ≤ 16 := by omega
    have hn40 : n ≤ 4096 := by omega
    refine (Told_any ao c L lo n W0 ((unhide HBt).below' (unhide HA)) (by omega) hh hlo hn4 hl16 hn40 h6).mono ?_
    rintro e W1 ⟨v1, v2, rfl, hE, hEs, hJ, hB1⟩
    obtain ⟨A, q, er, HT⟩ : ∃ A q er, Hid (tolD L lo n 6 (-1) = (A, q, er)) := ⟨_, _, _, hide rfl⟩
    rw [unhide HT] at hE hEs
    rw [unhide HT]
    have HC1 : Hid (CAt W1 w.heap.size 0 (.slice none 0 0)) := hide ((hB1.block w.heap.size (by omega)).trans (unhide HC))
    have HB1 := hide ((unhide HA).trans (hB1.mono (unhide HA).size))
    by_cases he : er = 0
    · have HCE : Hid (cdE L lo n = (0, 0)) := hide (by unfold cdE; rw [if_neg (by omega), unhide HT, if_neg (by simpa using he)])
      have HS : Hid (cdS L lo n = enS A) := hide (by unfold cdS; rw [unhide HCE, if_pos rfl, unhide HT])
      have HLl : Hid (cdL L lo n = (lo : Int)) := hide (by unfold cdL; rw [unhide HCE, if_pos rfl])
      subst he
      have hc3 : ∃ b off, ao = some ⟨b, off, none⟩ ∧ W1.cell? ⟨b, off + 3, none⟩ = some (.int .u8 (lo : Int)) := by
        obtain ⟨b, off, e, hc⟩ := ((unhide HBt).below' (unhide HB1)) 3 (by omega)
        rw [hlo] at hc
        exact ⟨b, off, e, hc⟩
      obtain ⟨b, off, rfl, hc⟩ := hc3
      have hlen : ((3 : Int) < ((L.length : Nat) : Int)) := by omega
      obtain ⟨oa, oc, rfl⟩ := hE.slice
      have HC2 : Hid (CAt (W1.setRow w.heap.size #[.int .i64 (lo : Int), (.slice oa (enS A).length oc)]) w.heap.size lo (.slice oa (enS A).length oc)) := hide (setRow_heap _ _ _ _ _ _ (unhide HC1))
      have HE := hide hE
      have HES := hide hEs
      clear hE hEs hJ HC hh HA HBt h16 h4k HT hB1
      go_wp2_with (refine wpList_store_row rfl 24 (.tmp 2) (.tmp 26) rfl w.heap.size #[.int .i64 (lo : Int), (.slice oa (enS A).length oc)] rfl rfl 24 #[.int .i64 0, .slice none 0 0] (unhide HC1) (by kernel_rfl) rfl (by simp [Value.oneCell']) ?_)
      refine bodyPost_ret (results_c2 rfl _ _ w.heap.size lo (.slice oa (enS A).length oc) rfl (unhide HC2)) rfl ⟨.slice oa (enS A).length oc, by rw [unhide HCE, unhide HLl]; rfl, ?_, by rw [unhide HS]; exact unhide HES, below_setRow' (unhide HB1) (Nat.le_refl _) _⟩
      rw [unhide HS]
      exact ((unhide HE).rowBelow (by omega) _).mono (by omega)
    · have HCE : Hid (cdE L lo n = (q, er)) := hide (by unfold cdE; rw [if_neg (by omega), unhide HT, if_pos (by simpa using he)])
      have HS : Hid (cdS L lo n = []) := hide (by unfold cdS; rw [unhide HCE, if_neg (by simpa using he)])
      have HLl : Hid (cdL L lo n = 0) := hide (by unfold cdL; rw [unhide HCE, if_neg (by simpa using he)])
      have b1 : (er != 0) = true := bne_t he
      have HC2 : Hid (CAt (W1.setRow w.heap.size #[.int .i64 0, .slice none 0 0]) w.heap.size 0 (.slice none 0 0)) := hide (setRow_heap _ _ _ _ _ _ (unhide HC1))
      clear hE hEs hJ HC hh HA HBt h16 h4k HT hB1 he
      go_wp2_with (refine wpList_store_row rfl 24 (.tmp 2) (.tmp 18) rfl w.heap.size #[.int .i64 0, .slice none 0 0] rfl rfl 24 #[.int .i64 0, .slice none 0 0] (unhide HC1) (by kernel_rfl) rfl (by simp [Value.oneCell']) ?_)
      refine bodyPost_ret (results_c2 rfl _ _ w.heap.size 0 (.slice none 0 0) rfl (unhide HC2)) rfl ⟨.slice none 0 0, by rw [unhide HCE, unhide HLl]; rfl, by rw [unhide HS]; exact OwnE.nil _ _, (by rw [unhide HS]; exact fun x hx => by cases hx), below_setRow' (unhide HB1) (Nat.le_refl _) _⟩
  · refine (Told_bad ao c L W0 ((unhide HBt).below' (unhide HA)) hl hh).mono ?_
    rintro e W1 ⟨rfl, hB1⟩
    have HCE : Hid (cdE L lo n = hdE L) := hide (by unfold cdE; rw [if_pos hh])
    have HS : Hid (cdS L lo n = []) := hide (by unfold cdS; rw [unhide HCE, if_neg hh])
    have HLl : Hid (cdL L lo n = 0) := hide (by unfold cdL; rw [unhide HCE, if_neg hh])
    have HC1 : Hid (CAt W1 w.heap.size 0 (.slice none 0 0)) := hide ((hB1.block w.heap.size (by omega)).trans (unhide HC))
    have HB1 := hide ((unhide HA).trans (hB1.mono (unhide HA).size))
    have b1 : ((hdE L).2 != 0) = true := bne_t hh
    have HC2 : Hid (CAt (W1.setRow w.heap.size #[.int .i64 0, .slice none 0 0]) w.heap.size 0 (.slice none 0 0)) := hide (setRow_heap _ _ _ _ _ _ (unhide HC1))
    clear HC hh HA HBt hB1
    go_wp2_with (refine wpList_store_row rfl 24 (.tmp 2) (.tmp 18) rfl w.heap.size #[.int .i64 0, .slice none 0 0] rfl rfl 24 #[.int .i64 0, .slice none 0 0] (unhide HC1) (by kernel_rfl) rfl (by simp [Value.oneCell']) ?_)
    refine bodyPost_ret (results_c2 rfl _ _ w.heap.size 0 (.slice none 0 0) rfl (unhide HC2)) rfl ⟨.slice none 0 0, by rw [unhide HCE, unhide HLl]; rfl, by rw [unhide HS]; exact OwnE.nil _ _, (by rw [unhide HS]; exact fun x hx => by cases hx), below_setRow' (unhide HB1) (Nat.le_refl _) _⟩
end Go.Proofs.Ythejnhdabokhjaa
