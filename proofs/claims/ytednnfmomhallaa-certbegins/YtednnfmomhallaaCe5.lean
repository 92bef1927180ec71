/-
  The contract of cert.Decode: what the plain functions cdL, cdS, cdE say; nothing old is turned, and the entries are a row of its own. Conditions: lengths fit.
-/
import Derived.Test.YtednnfmomhallaaCf1
import Derived.Test.YtednnfmomhallaaCe4
import Derived.Maps.OwnIn
namespace Go.Proofs.Ytednnfmomhallaa
open Go.RowKit Go.Shelf
attribute [local go_sem] Oper.semAt_some

/-- Decode's own boxes: the result's three. -/
structure DB (w W : World) (l : Int) (v : Value) (p e : Int) : Prop where
  c : CAt W w.heap.size l v
  p : W.heap[w.heap.size + 1]? = some (.cells #[.int .i64 p] 3 (0, 0))
  e : W.heap[w.heap.size + 2]? = some (.cells #[.int .i64 e] 26 (0, 0))
  bel : Below w.heap.size w W
theorem DB.lt {w W : World} {l : Int} {v : Value} {p e : Int} (h : DB w W l v p e) : w.heap.size + 2 < W.heap.size := (Array.getElem?_eq_some_iff.1 h.e).1
theorem DB.move {w W W' : World} {l : Int} {v : Value} {p e : Int} (h : DB w W l v p e) (hb : Below w.heap.size W W') (hs : ∀ r, w.heap.size ≤ r → r ≤ w.heap.size + 2 → W'.heap[r]? = W.heap[r]?) : DB w W' l v p e :=
  ⟨(hs _ (by omega) (by omega)).trans h.c, (hs _ (by omega) (by omega)).trans h.p, (hs _ (by omega) (by omega)).trans h.e, h.bel.trans hb⟩
theorem DB.below {w W W' : World} {l : Int} {v : Value} {p e : Int} (h : DB w W l v p e) (hb : Below W.heap.size W W') : DB w W' l v p e :=
  h.move (hb.mono h.bel.size) (fun r _ _ => hb.block r (by have := h.lt; omega))
theorem DB.grown {w W W' : World} {l : Int} {v : Value} {p e : Int} {row : Option Nat} (h : DB w W l v p e) (hg : W.grownBy W' row) (hr : ∀ k, row = some k → w.heap.size + 2 < k) : DB w W' l v p e :=
  h.move (below_grown hg h.bel.size (fun k e => by have := hr k e; omega)) (fun k h1 h2 => hg.block k (by have := h.lt; omega) (fun e => by have := hr k e.symm; omega))
theorem DB.new (w : World) : DB w (((w.alloc (.cells #[.int .i64 0, .slice none 0 0] 24)).alloc (.cells #[.int .i64 0] 3)).alloc (.cells #[.int .i64 0] 26)) 0 (.slice none 0 0) 0 0 := by
  have n1 := heap_alloc_new w (.cells #[.int .i64 0, .slice none 0 0] 24)
  have n2 := heap_alloc_new (w.alloc (.cells #[.int .i64 0, .slice none 0 0] 24)) (.cells #[.int .i64 0] 3)
  have n3 := heap_alloc_new ((w.alloc (.cells #[.int .i64 0, .slice none 0 0] 24)).alloc (.cells #[.int .i64 0] 3)) (.cells #[.int .i64 0] 26)
  simp only [World.size_alloc] at n2 n3
  have k1 := (Below.refl _ ((w.alloc (.cells #[.int .i64 0, .slice none 0 0] 24)).alloc (.cells #[.int .i64 0] 3))).alloc (Nat.le_refl _) (.cells #[.int .i64 0] 26)
  have k2 := (Below.refl _ (w.alloc (.cells #[.int .i64 0, .slice none 0 0] 24))).alloc (Nat.le_refl _) (.cells #[.int .i64 0] 3)
  refine ⟨?_, ?_, n3, ?_⟩
  · exact (k1.block _ (by simp; omega)).trans ((k2.block _ (by simp)).trans n1)
  · exact (k1.block _ (by simp)).trans n2
  · exact (((Below.refl w.heap.size w).alloc (Nat.le_refl _) _).alloc (by simp) _).alloc (by simp; omega) _
theorem DB.results {w W : World} {l : Int} {s : Value} {p e : Int} (h : DB w W l s p e) {fn : Func} {a u v : Tmp} (hf : fn.results = #[.cell a 24, .cell u 3, .cell v 26]) (tmps : Array Value)
    (ha : tmps.getD a undef = .pointer (some ⟨w.heap.size, 0, none⟩)) (hu : tmps.getD u undef = .pointer (some ⟨w.heap.size + 1, 0, none⟩)) (hv : tmps.getD v undef = .pointer (some ⟨w.heap.size + 2, 0, none⟩)) :
    (results fn tmps).run Try.prog W = .ok (.tuple #[.agg #[.int .i64 l, s], .int .i64 p, .int .i64 e]) W := by
  have c2 : W.cell? ⟨w.heap.size + 1, 0, none⟩ = some (.int .i64 p) := cell_of_row _ _ 0 _ _ _ h.p
  have c3 : W.cell? ⟨w.heap.size + 2, 0, none⟩ = some (.int .i64 e) := cell_of_row _ _ 0 _ _ _ h.e
  rw [results_cell3 hf, ha, hu, hv, run_addr, Result.andThen_ok, run_loadC h.c, Result.andThen_ok, run_addr, Result.andThen_ok]
  go_simp
theorem DB.setC {w W : World} {l : Int} {v : Value} {p e : Int} (h : DB w W l v p e) (l' : Int) (v' : Value) : DB w (W.setRow w.heap.size #[.int .i64 l', v']) l' v' p e :=
  ⟨setRow_heap _ _ _ _ _ _ h.c, (setRow_other _ _ _ _ (by omega)).trans h.p, (setRow_other _ _ _ _ (by omega)).trans h.e, below_setRow' h.bel (Nat.le_refl _) _⟩
theorem DB.setP {w W : World} {l : Int} {v : Value} {p e : Int} (h : DB w W l v p e) (p' : Int) : DB w (W.setCell ⟨w.heap.size + 1, 0, none⟩ (.int .i64 p')) l v p' e :=
  ⟨(Below.heap_setCell _ _ _ _ (by simp)).trans h.c, box_set h.p _, (Below.heap_setCell _ _ _ _ (by simp)).trans h.e, h.bel.setCell (p := ⟨w.heap.size + 1, 0, none⟩) (by simp) _⟩
theorem DB.setE {w W : World} {l : Int} {v : Value} {p e : Int} (h : DB w W l v p e) (e' : Int) : DB w (W.setCell ⟨w.heap.size + 2, 0, none⟩ (.int .i64 e')) l v p e' :=
  ⟨(Below.heap_setCell _ _ _ _ (by simp)).trans h.c, (Below.heap_setCell _ _ _ _ (by simp)).trans h.p, box_set h.e _, h.bel.setCell (p := ⟨w.heap.size + 2, 0, none⟩) (by simp) _⟩
theorem DB.drew {w W : World} {l : Int} {v : Value} {p e : Int} (h : DB w W l v p e) : DB w W.drew l v p e := ⟨h.c, h.p, h.e, belowD h.bel 1⟩
theorem DB.cp {w W : World} {l : Int} {v : Value} {p e : Int} (h : DB w W l v p e) : W.cell? ⟨w.heap.size + 1, 0, none⟩ = some (.int .i64 p) ∧ W.frozen? ⟨w.heap.size + 1, 0, none⟩ = false := ⟨cell_of_row _ _ 0 _ _ _ h.p, frozen_of_row _ _ _ _ _ h.p⟩
theorem DB.ce {w W : World} {l : Int} {v : Value} {p e : Int} (h : DB w W l v p e) : W.cell? ⟨w.heap.size + 2, 0, none⟩ = some (.int .i64 e) ∧ W.frozen? ⟨w.heap.size + 2, 0, none⟩ = false := ⟨cell_of_row _ _ 0 _ _ _ h.e, frozen_of_row _ _ _ _ _ h.e⟩

theorem CAt.set1 {W : World} {g : Nat} {l : Int} {v : Value} (h : CAt W g l v) (v' : Value) : CAt (W.setCell ⟨g, 1, none⟩ v') g l v' := by
  unfold CAt at h ⊢
  simp only [World.setCell, Array.getElem?_modify, if_true, h]
  rfl
theorem ys_last {A : List (En × Nat)} {q : Nat} {er : Int} {x : Yd} (h : x ∈ ysT A q er) (hx : x.2.2 ≠ 0) : x = (enZ, (q : Int), er) := by
  unfold ysT at h
  rcases List.mem_append.1 h with h | h
  · obtain ⟨a, _, rfl⟩ := List.mem_map.1 h
    exact absurd rfl hx
  · by_cases he : er = 0
    · rw [if_pos he] at h
      cases h
    · rw [if_neg he] at h
      exact List.mem_singleton.1 h

set_option maxRecDepth 20000 in
set_option maxHeartbeats 4000000 in
theorem Decode_any (ao : Option Addr) (c : Nat) (L : List UInt8) (lo n : Nat) (w : World) (hb : BAt w ao L) (hl : L.length ≤ 562949953421312) (hlo : at8 L 3 = lo) (hn4 : wdD L 4 = n) :
    Calls Try.prog 16 #[.slice ao L.length c] w fun e w' => ∃ v, e = .returned (.tuple #[.agg #[.int .i64 (cdL L lo n), v], .int .i64 ((cdE L lo n).1 : Int), .int .i64 (cdE L lo n).2]) ∧ OwnE w' w.heap.size v (cdS L lo n) ∧ Below w.heap.size w w' := by
  have HBt := hide hb
  have HF0 := hide (DB.new w)
  clear hb
  refine mk_calls Try.func16 rfl ?_
  simp only [Try.ntmps16, List.size_toArray, List.length_cons, List.length_nil, Nat.reduceAdd, Nat.reduceSub, Array.replicate_succ, Array.replicate_zero, List.push_toArray, List.append_toArray, List.nil_append, List.cons_append]
  go_wp2_with fail
  generalize (((w.alloc (.cells #[.int .i64 0, .slice none 0 0] 24)).alloc (.cells #[.int .i64 0] 3)).alloc (.cells #[.int .i64 0] 26)) = W1 at HF0 ⊢
  refine (open_any ao c L W1 ((unhide HBt).below' (unhide HF0).bel) hl).mono ?_
  rintro e W2 ⟨hB2, ⟨h0, gr, hgr, rfl, hR⟩ | ⟨h0, rfl⟩⟩
  rotate_left
  · have HF2 := hide ((unhide HF0).below hB2)
    have HCE : Hid (cdE L lo n = hdE L) := hide (by unfold cdE; rw [if_pos h0])
    have HS : Hid (cdS L lo n = []) := hide (by unfold cdS; rw [unhide HCE, if_neg h0])
    have HLl : Hid (cdL L lo n = 0) := hide (by unfold cdL; rw [unhide HCE, if_neg h0])
    have b1 : ((hdE L).2 != 0) = true := bne_t h0
    clear hB2 HF0 h0
    unfold ftV
    obtain ⟨er, HER⟩ : ∃ er, Hid ((hdE L).2 = er) := ⟨_, hide rfl⟩
    obtain ⟨fx, HFX⟩ : ∃ fx : Int, Hid (((hdE L).1 : Int) = fx) := ⟨_, hide rfl⟩
    rw [unhide HER] at b1
    rw [unhide HER, unhide HFX]
    go_upto_region 3 with fail
    have hft : FtAt (W2.alloc (.cells #[.int .i64 fx, .int .i64 er] 58)) W2.heap.size fx er := heap_alloc_new W2 _
    have HF3 := hide ((unhide HF2).below ((Below.refl W2.heap.size W2).alloc (Nat.le_refl _) (.cells #[.int .i64 fx, .int .i64 er] 58))).drew
    have hlt := (unhide HF2).lt
    clear HF2
    refine wp_region_held_drew (S := fun w' => FtAt w' W2.heap.size fx er) (by kernel_rfl) hft (fun hS => ?_)
    clear hft
    generalize (W2.alloc (.cells #[.int .i64 fx, .int .i64 er] 58)).drew = V0 at HF3 hS ⊢
    refine wpAnyH_take (i := 0) (v := .agg #[.int .i64 0, .slice none 0 0]) rfl (by kernel_rfl) (by kernel_rfl) (by kernel_rfl) (fun _ _ _ h => h) (Or.inl ⟨by rfl, fun w _ => by go_simp⟩) hS ?_
    refine wpAnyH_take (i := 1) (v := .pointer (some ⟨W2.heap.size, 0, none⟩)) rfl (by kernel_rfl) (by kernel_rfl) (by kernel_rfl) (fun _ _ _ h => h) (Or.inl ⟨by rfl, fun w _ => by go_simp⟩) hS ?_
    refine wpAnyH_take (i := 2) (v := .int .i64 fx) rfl (by kernel_rfl) (by kernel_rfl) (by kernel_rfl) (fun _ _ _ h => h) (Or.inl ⟨by rfl, fun w hS => by have h0 := FtAt.c0 hS; go_simp⟩) hS ?_
    refine wpAnyH_take (i := 3) (v := .pointer (some ⟨W2.heap.size, 1, none⟩)) rfl (by kernel_rfl) (by kernel_rfl) (by kernel_rfl) (fun _ _ _ h => h) (Or.inl ⟨by rfl, fun w _ => by go_simp⟩) hS ?_
    refine wpAnyH_take (i := 4) (v := .int .i64 er) rfl (by kernel_rfl) (by kernel_rfl) (by kernel_rfl) (fun _ _ _ h => h) (Or.inl ⟨by rfl, fun w hS => by have h0 := FtAt.c1 hS; go_simp⟩) hS ?_
    go_simp
    refine wpAnyH_ready (rs := [5]) (by kernel_rfl) (by simp) ?_
    refine AllReadyH.cons rfl (fun K hK => ?_) AllReadyH.nil
    rw [if_pos (by rfl)]
    refine wp_store_row 24 _ _ rfl w.heap.size #[.int .i64 0, .slice none 0 0] rfl rfl 24 #[.int .i64 0, .slice none 0 0] (unhide HF3).c (by kernel_rfl) rfl (by simp [Value.oneCell']) ?_
    have hSx : FtAt (V0.setRow w.heap.size #[.int .i64 0, .slice none 0 0]) W2.heap.size fx er := (setRow_other V0 w.heap.size W2.heap.size _ (by omega)).trans hS
    have HF4 := hide ((unhide HF3).setC 0 (.slice none 0 0))
    have d1 : ∀ k, w.heap.size + 2 < k → (V0.setRow w.heap.size #[.int .i64 0, .slice none 0 0]).heap[k]? = V0.heap[k]? := fun k hk => setRow_other V0 w.heap.size k _ (by omega)
    refine hK.out _ _ hSx (fun _ => ?_)
    clear hK K hS HF3
    generalize (V0.setRow w.heap.size #[.int .i64 0, .slice none 0 0]) = V1 at HF4 hSx d1 ⊢
    refine wpAnyH_ready (rs := [6]) (by kernel_rfl) (by simp) ?_
    refine AllReadyH.cons rfl (fun K hK => ?_) AllReadyH.nil
    rw [if_pos (by rfl)]
    have cb := (unhide HF4).cp
    obtain ⟨cb1, cb2⟩ := cb
    go_simp
    have hSy : FtAt (V1.setCell ⟨w.heap.size + 1, 0, none⟩ (.int .i64 fx)) W2.heap.size fx er := (Below.heap_setCell V1 ⟨w.heap.size + 1, 0, none⟩ _ W2.heap.size (by simp; omega)).trans hSx
    have HF5 := hide ((unhide HF4).setP fx)
    have d2 : ∀ k, w.heap.size + 2 < k → (V1.setCell ⟨w.heap.size + 1, 0, none⟩ (.int .i64 fx)).heap[k]? = V0.heap[k]? := fun k hk => (Below.heap_setCell V1 ⟨w.heap.size + 1, 0, none⟩ _ k (by simp; omega)).trans (d1 k hk)
    refine hK.out _ _ hSy (fun _ => ?_)
    clear hK K hSx HF4 cb1 cb2
    generalize (V1.setCell ⟨w.heap.size + 1, 0, none⟩ (.int .i64 fx)) = V2 at HF5 hSy d2 ⊢
    refine wpAnyH_ready (rs := [7]) (by kernel_rfl) (by simp) ?_
    refine AllReadyH.cons rfl (fun K hK => ?_) AllReadyH.nil
    rw [if_pos (by rfl)]
    have cb := (unhide HF5).ce
    obtain ⟨cb1, cb2⟩ := cb
    go_simp
    have hSz : FtAt (V2.setCell ⟨w.heap.size + 2, 0, none⟩ (.int .i64 er)) W2.heap.size fx er := (Below.heap_setCell V2 ⟨w.heap.size + 2, 0, none⟩ _ W2.heap.size (by simp; omega)).trans hSy
    have HF6 := hide ((unhide HF5).setE er)
    have d3 : ∀ k, w.heap.size + 2 < k → (V2.setCell ⟨w.heap.size + 2, 0, none⟩ (.int .i64 er)).heap[k]? = V0.heap[k]? := fun k hk => (Below.heap_setCell V2 ⟨w.heap.size + 2, 0, none⟩ _ k (by simp; omega)).trans (d2 k hk)
    refine hK.out _ _ hSz (fun _ => ?_)
    clear hK K hSy HF5 cb1 cb2 d1 d2
    generalize (V2.setCell ⟨w.heap.size + 2, 0, none⟩ (.int .i64 er)) = V3 at HF6 hSz d3 ⊢
    refine wpAnyH_done (by kernel_rfl) ?_ _
    go_wp2
    exact ⟨_, (unhide HF6).results rfl _ rfl rfl rfl, .slice none 0 0, by rw [unhide HCE, unhide HLl, unhide HER, unhide HFX], by rw [unhide HS]; exact OwnE.nil _ _, (unhide HF6).bel⟩
  · obtain ⟨h6, h16, h4k⟩ := mkE_good 3 0 h0
    rw [hlo, hn4] at hR
    have hlo' : lo ≤ 16 := by omega
    have hn' : n ≤ 4096 := by omega
    have hal := tol_len (L := L) (lo := lo) n 6 (-1)
    obtain ⟨A, q, er, HT⟩ : ∃ A q er, Hid (tolD L lo n 6 (-1) = (A, q, er)) := ⟨_, _, _, hide rfl⟩
    rw [unhide HT] at hal
    have HCE : Hid (cdE L lo n = if er ≠ 0 then (q, er) else (0, 0)) := hide (by unfold cdE; rw [if_neg (by omega), unhide HT])
    have HTA : Hid ((tolD L lo n 6 (-1)).1 = A) := hide (by rw [unhide HT])
    have HF2 := hide ((unhide HF0).below hB2)
    have hlt1 := (unhide HF0).lt
    have HR2 := hide hR
    have cr1 : (W2.alloc (.cells #[.int .i64 0, .int .i64 0] 58)).cell? ⟨gr, 1, none⟩ = some (.int .i64 (lo : Int)) := (hR.below ((Below.refl W2.heap.size W2).alloc (Nat.le_refl _) _)).c1
    clear hB2 HF0 h0 hR h16 h4k hlo hn4
    unfold ftV
    go_wp2_with fail
    have al1 := (Below.refl W2.heap.size W2).alloc (Nat.le_refl _) (.cells #[.int .i64 0, .int .i64 0] 58)
    have al2 := al1.alloc (by simp) (.cells #[.int .i64 (lo : Int), .slice none 0 0] 24)
    have hsz : ((W2.alloc (.cells #[.int .i64 0, .int .i64 0] 58)).alloc (.cells #[.int .i64 (lo : Int), .slice none 0 0] 24)).heap.size = W2.heap.size + 2 := by simp
    have HG3 := hide ((unhide HF2).below al2)
    have HC3 : Hid (CAt ((W2.alloc (.cells #[.int .i64 0, .int .i64 0] 58)).alloc (.cells #[.int .i64 (lo : Int), .slice none 0 0] 24)) (W2.heap.size + 1) lo (.slice none 0 0)) := hide (by
      have n2 := heap_alloc_new (W2.alloc (.cells #[.int .i64 0, .int .i64 0] 58)) (.cells #[.int .i64 (lo : Int), .slice none 0 0] 24)
      simp only [World.size_alloc] at n2
      exact n2)
    have HR3 := hide ((unhide HR2).below al2)
    have hgr2 := (unhide HR2).lt
    clear al1 al2 HF2 HR2 cr1
    generalize ((W2.alloc (.cells #[.int .i64 0, .int .i64 0] 58)).alloc (.cells #[.int .i64 (lo : Int), .slice none 0 0] 24)) = V at HG3 HC3 HR3 hsz ⊢
    refine (entriesMake_any gr V).mono ?_
    rintro e V' ⟨rfl, hV'⟩
    have hB4 : Below V.heap.size V V' := by rw [hV']; exact (Below.refl _ _).alloc (Nat.le_refl _) _
    have HBr4 : Hid (V'.heap[W2.heap.size + 2]? = some (.cells #[.pointer (some ⟨gr, 0, none⟩)] 56 (0, 0))) := hide (by rw [hV', ← hsz]; exact heap_alloc_new V _)
    have hsz4 : V'.heap.size = W2.heap.size + 3 := by rw [hV']; simp [hsz]
    have HG4 := hide ((unhide HG3).below hB4)
    have HC4 : Hid (CAt V' (W2.heap.size + 1) lo (.slice none 0 0)) := hide ((hB4.block _ (by omega)).trans (unhide HC3))
    have HR4 := hide ((unhide HR3).below hB4)
    rw [hsz]
    clear hV' hB4 HG3 HC3 HR3 hsz V
    go_upto_region 6 with fail
    have hcl := (unhide HC4).lt
    refine range_entries 4 (by omega) (W2.heap.size + 2) gr (c := c) w (unhide HBt) hl h6 hlo' hn' (unhide HT) rfl rfl (unhide HG4).bel (unhide HBr4) (unhide HR4) (by have := (unhide HG4).bel.size; omega) (by omega)
      (fun B0 pre W => V'.heap.size ≤ B0 ∧ DB w W 0 (.slice none 0 0) 0 0 ∧ (∃ v, CAt W (W2.heap.size + 1) lo v ∧ OwnE W B0 v (pre.map Prod.fst)) ∧ ∀ y ∈ pre, y.2.2 = 0 ∧ FrOk y.1.fr)
      (fun xs W => ∃ pre x, xs = pre ++ [x] ∧ x.2.2 ≠ 0 ∧ DB w W 0 (.slice none 0 0) x.2.1 x.2.2)
      (fun B0 pre x a₁ W => (V'.heap.size ≤ B0 ∧ DB w W 0 (.slice none 0 0) 0 0 ∧ (∃ v, CAt W (W2.heap.size + 1) lo v ∧ OwnE W B0 v (pre.map Prod.fst)) ∧ ∀ y ∈ pre, y.2.2 = 0 ∧ FrOk y.1.fr) ∧ B0 ≤ W.heap.size ∧ ∃ bx, B0 ≤ bx ∧ bx + 1 < W.heap.size ∧ EAt W bx x.1 ∧ FtAt W (bx + 1) x.2.1 x.2.2 ∧ a₁ = { tmps := #[.slice ao L.length c, undef, .pointer (some ⟨w.heap.size, 0, none⟩), .pointer (some ⟨w.heap.size + 1, 0, none⟩), .pointer (some ⟨w.heap.size + 1 + 1, 0, none⟩), .pointer (some ⟨gr, 0, none⟩), .pointer (some ⟨W2.heap.size, 0, none⟩), .pointer (some ⟨W2.heap.size + 1, 0, none⟩), .pointer (some ⟨bx, 0, none⟩), .pointer (some ⟨bx + 1, 0, none⟩), .tuple #[.pointer (some ⟨gr, 0, none⟩), .agg #[.int .i64 0, .int .i64 0]], .slice ao L.length c, .tuple #[.pointer (some ⟨gr, 0, none⟩), .agg #[.int .i64 0, .int .i64 0]], .pointer (some ⟨gr, 0, none⟩), .agg #[.int .i64 0, .int .i64 0], .pointer (some ⟨W2.heap.size, 1, none⟩), .int .i64 0, .bool false, undef, undef, undef, undef, undef, .pointer (some ⟨gr, 0, none⟩), .pointer (some ⟨gr, 0, none⟩), .pointer (some ⟨gr, 1, none⟩), .int .i64 (lo : Int), .agg #[.int .i64 (lo : Int), .slice none 0 0], .pointer (some ⟨gr, 0, none⟩), .func (.func 39) #[] #[.pointer (some ⟨W2.heap.size + 2, 0, none⟩)], .agg (enA x.1), .agg #[.int .i64 x.2.1, .int .i64 x.2.2], undef, undef, undef, undef, undef, undef, undef, undef, undef, undef, undef, undef, undef, undef, undef], defers := [] })
      ?abide ?abidex ?start ?assign ?mid ?body ?done ?stop
    case abide =>
      rintro B0 pre U1 U2 row ⟨u0, u1, ⟨v, u2, u3⟩, u4⟩ hgw hr
      exact ⟨u0, u1.grown hgw (fun k e => by rcases hr k e with h | h <;> omega), ⟨v, (hgw.block _ u2.lt (fun e => by rcases hr _ e.symm with h | h <;> omega)).trans u2, rows_grown u3 hgw (fun g e e2 => by have := (u3.lt g e).1; rcases hr g e2 with h | h <;> omega)⟩, u4⟩
    case abidex =>
      rintro xs U1 o ⟨pre, x, h1, h2, h3⟩
      exact ⟨pre, x, h1, h2, h3.grown (grownBy_putObj' _ _ _) (fun k e => by injection e with e; omega)⟩
    case start => exact fun B0 h => ⟨h, unhide HG4, ⟨_, unhide HC4, OwnE.nil _ _⟩, fun y hy => by cases hy⟩
    case mid =>
      rintro B0 pre x a₁ U1 o hB0 ⟨⟨u0, u1, ⟨v, u2, u3⟩, u4⟩, u5, bx, u6, u7, u8, u9, u10⟩
      have g := grownBy_putObj' U1 (V'.heap.size + 1) o
      exact ⟨⟨u0, u1.grown g (fun k e => by injection e with e; omega), ⟨v, (g.block _ u2.lt (fun e => by injection e with e; omega)).trans u2, rows_grown u3 g (fun k e e2 => by have := (u3.lt k e).1; injection e2 with e2; omega)⟩, u4⟩, Nat.le_trans u5 g.size, bx, u6, Nat.lt_of_lt_of_le u7 g.size, (g.block bx (by omega) (fun e => by injection e with e; omega)).trans u8, (g.block (bx + 1) u7 (fun e => by injection e with e; omega)).trans u9, u10⟩
    case assign =>
      rintro l B0 pre x U hB0 hU ⟨u0, u1, ⟨v, u2, u3⟩, u4⟩ hpre hx
      have E1 : Hid (EAt (U.alloc (.cells (enA enZ) 42)) U.heap.size enZ) := hide (EAt.new U enZ)
      have E2 := hide ((unhide E1).row x.1)
      have bl : Below U.heap.size U (((U.alloc (.cells (enA enZ) 42)).setRow U.heap.size (enA x.1)).alloc (.cells #[.int .i64 x.2.1, .int .i64 x.2.2] 58)) := (below_setRow' ((Below.refl _ _).alloc (Nat.le_refl _) _) (Nat.le_refl _) _).alloc (by simp) _
      have E3 : Hid (EAt (((U.alloc (.cells (enA enZ) 42)).setRow U.heap.size (enA x.1)).alloc (.cells #[.int .i64 x.2.1, .int .i64 x.2.2] 58)) U.heap.size x.1) := hide ((((Below.refl _ _).alloc (Nat.le_refl _) _).block U.heap.size (by simp)).trans (unhide E2))
      have F2 : Hid (FtAt (((U.alloc (.cells (enA enZ) 42)).setRow U.heap.size (enA x.1)).alloc (.cells #[.int .i64 x.2.1, .int .i64 x.2.2] 58)) (U.heap.size + 1) x.2.1 x.2.2) := hide (by
        have := heap_alloc_new ((U.alloc (.cells (enA enZ) 42)).setRow U.heap.size (enA x.1)) (.cells #[.int .i64 x.2.1, .int .i64 x.2.2] 58)
        simp only [size_setRow, World.size_alloc] at this
        exact this)
      have usz : (((U.alloc (.cells (enA enZ) 42)).setRow U.heap.size (enA x.1)).alloc (.cells #[.int .i64 x.2.1, .int .i64 x.2.2] 58)).heap.size = U.heap.size + 2 := by simp
      have HM : Hid (∀ V, Below U.heap.size U V → V'.heap.size ≤ B0 ∧ DB w V 0 (.slice none 0 0) 0 0 ∧ (∃ v, CAt V (W2.heap.size + 1) lo v ∧ OwnE V B0 v (pre.map Prod.fst)) ∧ ∀ y ∈ pre, y.2.2 = 0 ∧ FrOk y.1.fr) := hide (fun V hV => ⟨u0, u1.below hV, ⟨v, (hV.block _ u2.lt).trans u2, u3.below hV⟩, u4⟩)
      have hwU := u1.bel.size
      clear u1 u2 u3 u4
      unfold encY ftV
      gi_wp2_with (refine wpListIn_store_s rfl 42 (.tmp 8) (.tmp 30) rfl U.heap.size (enA x.1) rfl rfl 42 (enA enZ) (unhide E1) (sizeEn hx) (sizeEqEn enZ_ok hx) (enA_one _) ?_; simp only [Act.put])
      rw [enZ_eq]
      simp only [size_setRow, World.size_alloc]
      generalize (((U.alloc (.cells (enA enZ) 42)).setRow U.heap.size (enA x.1)).alloc (.cells #[.int .i64 x.2.1, .int .i64 x.2.2] 58)) = V at bl E3 F2 usz ⊢
      exact ⟨bl.block _ (by omega), bl.block _ (by omega), Kpt.of_grown (grown_of bl none) (by omega) (by omega) (by omega) hU (fun r e => by cases e), unhide HM V bl, by omega, U.heap.size, by omega, by omega, unhide E3, unhide F2, rfl⟩
    case body =>
      rintro l B0 pre x a₁ U hB0 hpre hx ⟨⟨u0, u1, ⟨v, u2, u3⟩, u4⟩, u5, bx, u6, u7, u8, u9, rfl⟩
      have c1 : U.cell? ⟨bx + 1, 1, none⟩ = some (.int .i64 x.2.2) := FtAt.c1 u9
      have hsl := u1.lt
      have hwU := u1.bel.size
      by_cases he : x.2.2 = 0
      · have hplen : pre.length < 4098 := by
          have h1 := hpre.length_le
          rw [List.length_append] at h1
          have h2 : (ysT A q er).length ≤ A.length + 1 := by
            unfold ysT ysA
            rw [List.length_append, List.length_map]
            split <;> simp
          simp only [List.length_cons, List.length_nil] at h1
          omega
        obtain ⟨es, HES⟩ : ∃ es, Hid (pre.map Prod.fst = es) := ⟨_, hide rfl⟩
        rw [unhide HES] at u3
        obtain ⟨oa, oc, rfl⟩ := u3.slice
        have HI2 : Hid (∀ y ∈ pre ++ [x], y.2.2 = 0 ∧ FrOk y.1.fr) := hide (fun y hy => by
          rcases List.mem_append.1 hy with h | h
          · exact u4 y h
          · rw [List.mem_singleton.1 h]; exact ⟨he, hx⟩)
        have c2 := u2.c1
        have HD := hide u1
        have HC := hide u2
        have HO := hide u3
        have HE := hide u8
        have hsf := slice_fold hx
        have hss := enA_size hx
        obtain ⟨ii, ei, ez0, ez1, ez2⟩ := info_parts infoE
        have hlen : es.length ≤ 4098 := by rw [← unhide HES, List.length_map]; omega
        have HO1 := hide ((unhide HO).below ((Below.refl U.heap.size U).alloc (Nat.le_refl _) (.cells (enA x.1) 42)))
        rw [he] at c1
        clear u1 u2 u3 u4 u8 u9
        have hb1 : B0 ≤ (U.alloc (.cells (enA x.1) 42)).heap.size := by simp; omega
        gi_wp2_with (first | (refine wpListIn_load_s rfl 42 (.tmp 8) rfl bx rfl 42 (enA x.1) (0, 0) _ (unhide HE) Try.underlying42 rfl (sizeEn hx) ?_) | (refine wpListIn_append_own_at _ rfl (.tmp 41) (.tmp 43) 22 rfl B0 42 ii (.agg #[.int .i64 0, .bool false, .int .i64 0, .int .i64 0, .int .u8 0, .int .u8 0, .int .u8 0, .int .u8 0, .int .u8 0, .int .u8 0, .int .u8 0, .int .u8 0, .int .u8 0, .int .u8 0, .int .u8 0, .int .u8 0, .int .u8 0, .int .u8 0, .int .u8 0, .int .u8 0, .int .u8 0, .int .u8 0, .int .u8 0, .int .u8 0, .int .u8 0, .int .u8 0, .int .u8 0, .int .u8 0]) 28 56 Try.underlying22 ei ez0 ez1 ez2 rfl (by decide) _ es.length (evals es) rfl (unhide HO1) ⟨U.heap.size, 0, none⟩ 1 1 (enL x.1) rfl (by rw [enL_len hx]) (cell_new_en _ _) (by have := evals_one [x.1]; simpa [evals] using this) (by unfold maxLen; omega) (by omega) hb1 ?_))
        intro v' U2 hO2 hG2 _ hat2
        obtain ⟨g', cap', rfl⟩ : ∃ g' cap', v' = .slice (some ⟨g', 0, none⟩) (es.length + 1) cap' := by
          rcases hO2.2 with ⟨_, h⟩ | ⟨g', cap', _, hv, _⟩
          · omega
          · exact ⟨g', cap', hv⟩
        have g1 : U.grownBy (U.alloc (.cells (enA x.1) 42)) none := World.grownBy_alloc _ _ _
        have hr2 : ∀ r, (Value.slice oa es.length oc).ownBlock = some r → B0 ≤ r := fun r e => ((unhide HO1).lt r e).1
        have hs1 : (U.alloc (.cells (enA x.1) 42)).heap.size = U.heap.size + 1 := by simp
        have hs2 := hG2.size
        have HO2 : Hid (OwnE U2 B0 (.slice (some ⟨g', 0, none⟩) (es.length + 1) cap') (es ++ [x.1])) := hide (by
          unfold OwnE
          rw [List.length_append, evals_append]
          have e2 : evals [x.1] = enL x.1 := by simp [evals]
          rw [e2]
          exact hO2)
        have HC2 : Hid (CAt U2 (W2.heap.size + 1) lo (.slice oa es.length oc)) := hide ((hG2.block _ (by omega) (fun e => by have := hr2 _ e.symm; omega)).trans ((g1.block _ (by omega) (fun e => by cases e)).trans (unhide HC)))
        have c3 := (unhide HC2).c1
        have c4 := (unhide HC2).f 1
        have HG2 := hide hG2
        clear hO2 hat2 hsf hss hG2
        gi_wp2
        have g3 := grown_setCell U2 (W2.heap.size + 1) 1 (.slice (some ⟨g', 0, none⟩) (es.length + 1) cap')
        have hG2 := unhide HG2
        refine ⟨(g3.block _ (by omega) (fun e => by injection e with e; omega)).trans ((hG2.block _ (by omega) (fun e => by have := hr2 _ e.symm; omega)).trans (g1.block _ (by omega) (fun e => by cases e))), (g3.block _ (by omega) (fun e => by injection e with e; omega)).trans ((hG2.block _ (by omega) (fun e => by have := hr2 _ e.symm; omega)).trans (g1.block _ (by omega) (fun e => by cases e))), (Kpt.of_grown g1 (by omega) (by omega) (by omega) (by omega) (fun r e => by cases e)).trans ((Kpt.of_grown hG2 (by omega) (by omega) (by omega) (by omega) (fun r e => by have := hr2 r e; omega)).trans (Kpt.of_grown g3 (by omega) (by omega) (by omega) (by omega) (fun r e => by injection e with e; omega))), u0, (((unhide HD).grown g1 (fun k e => by cases e)).grown hG2 (fun k e => by have := hr2 k e; omega)).grown g3 (fun k e => by injection e with e; omega), ⟨_, (unhide HC2).set1 _, ?_⟩, unhide HI2⟩
        rw [List.map_append, unhide HES]
        exact rows_grown (unhide HO2) g3 (fun k e e2 => by have := ((unhide HO2).lt k e).1; injection e2 with e2; omega)
      · have b1 : (x.2.2 != 0) = true := bne_t he
        obtain ⟨xe, fx, fe⟩ := x
        simp only at *
        clear u2 u3 u4 u8
        gi_wp2
        have HF3 := hide u1.drew
        have hww : V'.heap.size + 1 < U.heap.size := by omega
        have hbx3 : w.heap.size + 2 < bx + 1 := by omega
        refine region_any (S := fun w' => FtAt w' (bx + 1) fx fe) (by kernel_rfl) (by rintro ⟨_, _, h⟩; exact h) (by kernel_rfl) u9 (fun hS => ?_)
        have dd : ∀ k : Nat, U.drew.heap[k]? = U.heap[k]? := fun _ => rfl
        generalize U.drew = V0 at HF3 hS dd ⊢
        refine wpAnyH_take (i := 0) (v := .agg #[.int .i64 0, .slice none 0 0]) rfl (by kernel_rfl) (by kernel_rfl) (by kernel_rfl) (fun _ _ _ h => h) (Or.inl ⟨by rfl, fun w _ => by go_simp⟩) hS ?_
        refine wpAnyH_take (i := 1) (v := .pointer (some ⟨(bx + 1), 0, none⟩)) rfl (by kernel_rfl) (by kernel_rfl) (by kernel_rfl) (fun _ _ _ h => h) (Or.inl ⟨by rfl, fun w _ => by go_simp⟩) hS ?_
        refine wpAnyH_take (i := 2) (v := .int .i64 fx) rfl (by kernel_rfl) (by kernel_rfl) (by kernel_rfl) (fun _ _ _ h => h) (Or.inl ⟨by rfl, fun w hS => by have h0 := FtAt.c0 hS; go_simp⟩) hS ?_
        refine wpAnyH_take (i := 3) (v := .pointer (some ⟨(bx + 1), 1, none⟩)) rfl (by kernel_rfl) (by kernel_rfl) (by kernel_rfl) (fun _ _ _ h => h) (Or.inl ⟨by rfl, fun w _ => by go_simp⟩) hS ?_
        refine wpAnyH_take (i := 4) (v := .int .i64 fe) rfl (by kernel_rfl) (by kernel_rfl) (by kernel_rfl) (fun _ _ _ h => h) (Or.inl ⟨by rfl, fun w hS => by have h0 := FtAt.c1 hS; go_simp⟩) hS ?_
        go_simp
        refine wpAnyH_ready (rs := [5]) (by kernel_rfl) (by simp) ?_
        refine AllReadyH.cons rfl (fun K hK => ?_) AllReadyH.nil
        rw [if_pos (by rfl)]
        refine wp_store_row 24 _ _ rfl w.heap.size #[.int .i64 0, .slice none 0 0] rfl rfl 24 #[.int .i64 0, .slice none 0 0] (unhide HF3).c (by kernel_rfl) rfl (by simp [Value.oneCell']) ?_
        have hSx : FtAt (V0.setRow w.heap.size #[.int .i64 0, .slice none 0 0]) (bx + 1) fx fe := (setRow_other V0 w.heap.size (bx + 1) _ (by omega)).trans hS
        have HF4 := hide ((unhide HF3).setC 0 (.slice none 0 0))
        have d1 : ∀ k, w.heap.size + 2 < k → (V0.setRow w.heap.size #[.int .i64 0, .slice none 0 0]).heap[k]? = V0.heap[k]? := fun k hk => setRow_other V0 w.heap.size k _ (by omega)
        refine hK.out _ _ hSx (fun _ => ?_)
        clear hK K hS HF3
        generalize (V0.setRow w.heap.size #[.int .i64 0, .slice none 0 0]) = V1 at HF4 hSx d1 ⊢
        refine wpAnyH_ready (rs := [6]) (by kernel_rfl) (by simp) ?_
        refine AllReadyH.cons rfl (fun K hK => ?_) AllReadyH.nil
        rw [if_pos (by rfl)]
        have cb := (unhide HF4).cp
        obtain ⟨cb1, cb2⟩ := cb
        go_simp
        have hSy : FtAt (V1.setCell ⟨w.heap.size + 1, 0, none⟩ (.int .i64 fx)) (bx + 1) fx fe := (Below.heap_setCell V1 ⟨w.heap.size + 1, 0, none⟩ _ (bx + 1) (by simp; omega)).trans hSx
        have HF5 := hide ((unhide HF4).setP fx)
        have d2 : ∀ k, w.heap.size + 2 < k → (V1.setCell ⟨w.heap.size + 1, 0, none⟩ (.int .i64 fx)).heap[k]? = V0.heap[k]? := fun k hk => (Below.heap_setCell V1 ⟨w.heap.size + 1, 0, none⟩ _ k (by simp; omega)).trans (d1 k hk)
        refine hK.out _ _ hSy (fun _ => ?_)
        clear hK K hSx HF4 cb1 cb2
        generalize (V1.setCell ⟨w.heap.size + 1, 0, none⟩ (.int .i64 fx)) = V2 at HF5 hSy d2 ⊢
        refine wpAnyH_ready (rs := [7]) (by kernel_rfl) (by simp) ?_
        refine AllReadyH.cons rfl (fun K hK => ?_) AllReadyH.nil
        rw [if_pos (by rfl)]
        have cb := (unhide HF5).ce
        obtain ⟨cb1, cb2⟩ := cb
        go_simp
        have hSz : FtAt (V2.setCell ⟨w.heap.size + 2, 0, none⟩ (.int .i64 fe)) (bx + 1) fx fe := (Below.heap_setCell V2 ⟨w.heap.size + 2, 0, none⟩ _ (bx + 1) (by simp; omega)).trans hSy
        have HF6 := hide ((unhide HF5).setE fe)
        have d3 : ∀ k, w.heap.size + 2 < k → (V2.setCell ⟨w.heap.size + 2, 0, none⟩ (.int .i64 fe)).heap[k]? = V0.heap[k]? := fun k hk => (Below.heap_setCell V2 ⟨w.heap.size + 2, 0, none⟩ _ k (by simp; omega)).trans (d2 k hk)
        refine hK.out _ _ hSz (fun _ => ?_)
        clear hK K hSy HF5 cb1 cb2 d1 d2
        generalize (V2.setCell ⟨w.heap.size + 2, 0, none⟩ (.int .i64 fe)) = V3 at HF6 hSz d3 ⊢
        refine wpAnyH_done (by kernel_rfl) ?_ _
        gi_wp2
        exact ⟨(d3 _ (by omega)).trans (dd _), (d3 _ (by omega)).trans (dd _), pre, (xe, fx, fe), rfl, he, unhide HF6⟩
    case done =>
      rintro B0 U hB0 ⟨u0, u1, ⟨v, u2, u3⟩, u4⟩ hD
      obtain rfl : er = 0 := ys_good (fun y hy => (u4 y hy).1)
      have HCEz : Hid (cdE L lo n = (0, 0)) := hide (by rw [unhide HCE, if_neg (by simp)])
      have HS : Hid (cdS L lo n = (ysT A q 0).map Prod.fst) := hide (by
        unfold cdS
        rw [unhide HCEz, if_pos rfl, unhide HTA, ysT, if_pos rfl, List.append_nil]
        simp [enS, ysA])
      have HLl : Hid (cdL L lo n = (lo : Int)) := hide (by unfold cdL; rw [unhide HCEz, if_pos rfl])
      obtain ⟨es, HES⟩ : ∃ es, Hid ((ysT A q 0).map Prod.fst = es) := ⟨_, hide rfl⟩
      rw [unhide HES] at u3 HS
      obtain ⟨oa, oc, rfl⟩ := u3.slice
      have hul := u1.lt
      have HU := hide u1
      have HC := hide u2
      have HO := hide u3
      have HX := hide (u1.setC lo (.slice oa es.length oc))
      obtain ⟨p1, p2⟩ := (unhide HX).cp
      obtain ⟨q1, q2⟩ := (unhide HX).ce
      clear u1 u2 u3 u4
      go_wp2_with (first | (refine wpList_load_row rfl 24 (.tmp 7) rfl (W2.heap.size + 1) rfl 24 #[.int .i64 (lo : Int), .slice oa es.length oc] (0, 0) _ (unhide HC) Try.underlying24 rfl (by kernel_rfl) ?_) | (refine wpList_store_row rfl 24 (.tmp 2) (.tmp 46) rfl w.heap.size #[.int .i64 (lo : Int), .slice oa es.length oc] rfl rfl 24 #[.int .i64 0, .slice none 0 0] (unhide HU).c (by kernel_rfl) rfl (by simp [Value.oneCell']) ?_))
      have h3 := ((unhide HX).setP 0).setE 0
      have gA := grown_setRow U w.heap.size #[.int .i64 (lo : Int), .slice oa es.length oc]
      have gB := grown_setCell (U.setRow w.heap.size #[.int .i64 (lo : Int), .slice oa es.length oc]) (w.heap.size + 1) 0 (.int .i64 0)
      have gC := grown_setCell ((U.setRow w.heap.size #[.int .i64 (lo : Int), .slice oa es.length oc]).setCell ⟨w.heap.size + 1, 0, none⟩ (.int .i64 0)) (w.heap.size + 2) 0 (.int .i64 0)
      have sA := gA.size
      have sB := gB.size
      rw [hsz4] at hD
      have hDl := (Array.getElem?_eq_some_iff.1 hD).1
      have hD3 := (gC.block (W2.heap.size + 3) (by omega) (fun e => by injection e with e; omega)).trans ((gB.block (W2.heap.size + 3) (by omega) (fun e => by injection e with e; omega)).trans ((gA.block (W2.heap.size + 3) (by omega) (fun e => by injection e with e; omega)).trans hD))
      have o1 := rows_grown (unhide HO) gA (fun g e e2 => by have := ((unhide HO).lt g e).1; injection e2 with e2; omega)
      have o2 := rows_grown o1 gB (fun g e e2 => by have := ((unhide HO).lt g e).1; injection e2 with e2; omega)
      have o3 := rows_grown o2 gC (fun g e e2 => by have := ((unhide HO).lt g e).1; injection e2 with e2; omega)
      have hlu := h3.lt
      clear gA gB gC o1 o2 sA sB
      generalize (((U.setRow w.heap.size #[.int .i64 (lo : Int), .slice oa es.length oc]).setCell ⟨w.heap.size + 1, 0, none⟩ (.int .i64 0)).setCell ⟨w.heap.size + 2, 0, none⟩ (.int .i64 0)) = V3 at h3 hD3 o3 hlu ⊢
      have gD := grownBy_putObj' V3 (W2.heap.size + 3) (.deferred none)
      have h3' := h3.grown gD (fun k e => by injection e with e; omega)
      have o4 : OwnE (V3.putObj (W2.heap.size + 3) (.deferred none)) B0 (.slice oa es.length oc) es := rows_grown o3 gD (fun g e e2 => by
        rcases o3.2 with ⟨hv, _⟩ | ⟨g', _, _, hv, _, hgb, _⟩
        · rw [hv] at e
          cases e
        · rw [hv] at e
          injection e with e
          injection e2 with e2
          rw [show g' = W2.heap.size + 3 from e.trans e2.symm, hD3] at hgb
          cases hgb)
      exact ⟨by simp, .inl ⟨_, _, rfl, run_takeDeferred hD3, ⟨_, h3'.results rfl _ rfl rfl rfl, .slice oa es.length oc, by rw [unhide HCEz, unhide HLl]; rfl, by rw [unhide HS]; exact o4.mono (by omega), h3'.bel⟩⟩⟩
    case stop =>
      rintro pre x U hpre ⟨pre', x', h1, h2, h3⟩ hD
      obtain ⟨rfl, rfl⟩ : pre = pre' ∧ x = x' := by
        have := List.append_inj' h1 rfl
        exact ⟨this.1, by simpa using this.2⟩
      have h4 := ys_last (mem_of_pre hpre) h2
      subst h4
      simp only at h2 h3
      have HCEz : Hid (cdE L lo n = (q, er)) := hide (by rw [unhide HCE, if_pos h2])
      have HS : Hid (cdS L lo n = []) := hide (by unfold cdS; rw [unhide HCEz, if_neg h2])
      have HLl : Hid (cdL L lo n = 0) := hide (by unfold cdL; rw [unhide HCEz, if_neg h2])
      have hlu := h3.lt
      have h3' := h3.grown (grownBy_putObj' U V'.heap.size (.deferred none)) (fun k e => by injection e with e; omega)
      exact ⟨by simp, .inl ⟨_, _, rfl, run_takeDeferred hD, ⟨_, h3'.results rfl _ rfl rfl rfl, .slice none 0 0, by rw [unhide HCEz, unhide HLl], by rw [unhide HS]; exact OwnE.nil _ _, h3'.bel⟩⟩⟩
end Go.Proofs.Ytednnfmomhallaa
