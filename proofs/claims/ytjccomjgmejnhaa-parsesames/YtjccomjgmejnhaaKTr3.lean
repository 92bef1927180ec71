/-
  provisoplain.Expr: an expression's copy in memory of its own. Conditions: lengths fit.
-/
import Derived.Test.YtjccomjgmejnhaaKTr2
namespace Go.Proofs.Ytjccomjgmejnhaa
open Go.RowKit

theorem infoEx : (Try.prog.info? 49).map (fun i => (i.zero, i.size, i.bytes)) = some (some (.agg #[.int .i64 0, .int .i64 0, .string ⟨#[]⟩, .int .i64 0, .slice none 0 0, .int .u8 0, .int .i64 0, .int .i64 0]), 8, 88) := by kernel_rfl
theorem exC_one (y : Ex) : ∀ u ∈ exC y, u.oneCell' = true := by
  intro u hu
  simp only [exC, List.mem_cons, List.mem_nil_iff, or_false] at hu
  rcases hu with rfl | rfl | rfl | rfl | rfl | rfl | rfl | rfl <;> rfl
/-- While the kids of an expression are copied. -/
structure XRun (w wr : World) (x : Ex) (n : Nat) (v : Value) (M : List Ex) : Prop where
  box : Bx wr w.heap.size 49 #[.int .i64 x.r.op, .int .i64 x.r.pl, .string x.r.nm, .int .i64 x.r.num, v, .int .u8 (x.r.ty : Int), .int .i64 x.r.cl, .int .i64 x.r.rf]
  old : Bx wr (w.heap.size + 1) 49 #[.int .i64 0, .int .i64 0, .string ⟨#[]⟩, .int .i64 0, .slice none 0 0, .int .u8 0, .int .i64 0, .int .i64 0]
  bld : Bld (exN n) wr (w.heap.size + 2) v M
  cps : ∀ (i : Nat) a b, x.ks[i]? = some a → M[i]? = some b → sameX n a b
  bel : Below w.heap.size w wr
theorem XRun.step {w wr w2 w3 : World} {x : Ex} {n : Nat} {v : Value} {M : List Ex} {k c : Ex} {obj : Obj} {g3 cap3 B : Nat} (h : XRun w wr x n v M) (hB : Below wr.heap.size wr w2) (hok : (exN n).ok w2 c) (hlo : (exN n).all (fun b => B ≤ b) c) (hBB : wr.heap.size ≤ B) (hs : sameX n k c) (hk : x.ks[M.length]? = some k) (hown : w3.ownsRow (w.heap.size + 2) 49 8 (.slice (some ⟨g3, 0, none⟩) (M.length + 1) cap3) (M.length + 1) (vals (exN n) M ++ exC c)) (hg : (w2.alloc obj).grownBy w3 v.ownBlock) (hat : v.ownBlock = some g3 ∨ g3 = w2.heap.size + 1) : XRun w (w3.setCell ⟨w.heap.size, 4, none⟩ (.slice (some ⟨g3, 0, none⟩) (M.length + 1) cap3)) x n (.slice (some ⟨g3, 0, none⟩) (M.length + 1) cap3) (M ++ [c]) := by
  have hsz : w.heap.size + 2 ≤ wr.heap.size := h.old.lt
  have hB3 : Below wr.heap.size wr (w2.alloc obj) := hB.alloc hB.size _
  have hvg : ∀ q, v.ownBlock = some q → w.heap.size + 2 ≤ q := fun q e => (World.ownsRow.lt h.bld.own q e).1
  have hset := grownBy_set w3 w.heap.size 4 (.slice (some ⟨g3, 0, none⟩) (M.length + 1) cap3)
  refine ⟨((h.box.below hB3).grown hg (fun e => by have := hvg _ e; omega)).set 4 _ rfl, ((h.old.below hB3).grown hg (fun e => by have := hvg _ e; omega)).grown hset (fun e => by injection e with e; omega), (h.bld.step hB hok ((exN n).mono (fun b hb => by omega) hlo) hsz hown hg hat).box hset (by omega), ?_, ?_⟩
  · intro i a b ha hb
    by_cases e : i < M.length
    · rw [List.getElem?_append_left e] at hb
      exact h.cps i a b ha hb
    · rw [List.getElem?_append_right (by omega)] at hb
      have e2 : i - M.length = 0 := by
        have := (List.getElem?_eq_some_iff.1 hb).1
        simp at this
        omega
      rw [e2] at hb
      simp at hb
      subst hb
      have e3 : i = M.length := by omega
      subst e3
      rw [hk] at ha
      injection ha with ha
      subst ha
      exact hs
  · have b1 := h.bel.trans (hB3.mono h.bel.size)
    exact (b1.grown hg b1.size (fun q e => by have := hvg q e; omega)).setCell (p := ⟨w.heap.size, 4, none⟩) (Nat.le_refl _) _

set_option maxRecDepth 20000 in
set_option maxHeartbeats 8000000 in
theorem Expr_in (n : Nat) (IH : ∀ (x : Ex) (w : World), (exN n).ok w x → Calls Try.prog 18 #[.agg #[.int .i64 x.r.op, .int .i64 x.r.pl, .string x.r.nm, .int .i64 x.r.num, .slice x.r.ka x.ks.length x.r.kc, .int .u8 (x.r.ty : Int), .int .i64 x.r.cl, .int .i64 x.r.rf]] w fun e w' => ∃ c : Ex, e = .returned (.agg #[.int .i64 c.r.op, .int .i64 c.r.pl, .string c.r.nm, .int .i64 c.r.num, .slice c.r.ka c.ks.length c.r.kc, .int .u8 (c.r.ty : Int), .int .i64 c.r.cl, .int .i64 c.r.rf]) ∧ (exN n).ok w' c ∧ sameX n x c ∧ (exN n).all (fun b => w.heap.size ≤ b) c ∧ Below w.heap.size w w') (x : Ex) (w : World) (hx : (exN (n + 1)).ok w x) :
    Calls Try.prog 18 #[.agg #[.int .i64 x.r.op, .int .i64 x.r.pl, .string x.r.nm, .int .i64 x.r.num, .slice x.r.ka x.ks.length x.r.kc, .int .u8 (x.r.ty : Int), .int .i64 x.r.cl, .int .i64 x.r.rf]] w fun e w' => ∃ c : Ex, e = .returned (.agg #[.int .i64 c.r.op, .int .i64 c.r.pl, .string c.r.nm, .int .i64 c.r.num, .slice c.r.ka c.ks.length c.r.kc, .int .u8 (c.r.ty : Int), .int .i64 c.r.cl, .int .i64 c.r.rf]) ∧ (exN (n + 1)).ok w' c ∧ sameX (n + 1) x c ∧ (exN (n + 1)).all (fun b => w.heap.size ≤ b) c ∧ Below w.heap.size w w' := by
  obtain ⟨i0, hi0, hz0, hz1, hz2⟩ := info_parts infoEx
  have al1 := (Below.refl w.heap.size w).alloc (Nat.le_refl _) (.cells #[.int .i64 x.r.op, .int .i64 x.r.pl, .string x.r.nm, .int .i64 x.r.num, .slice x.r.ka x.ks.length x.r.kc, .int .u8 (x.r.ty : Int), .int .i64 x.r.cl, .int .i64 x.r.rf] 49)
  have al := al1.alloc (by simp) (.cells #[.int .i64 0, .int .i64 0, .string ⟨#[]⟩, .int .i64 0, .slice none 0 0, .int .u8 0, .int .i64 0, .int .i64 0] 49)
  have n1 := heap_alloc_new w (.cells #[.int .i64 x.r.op, .int .i64 x.r.pl, .string x.r.nm, .int .i64 x.r.num, .slice x.r.ka x.ks.length x.r.kc, .int .u8 (x.r.ty : Int), .int .i64 x.r.cl, .int .i64 x.r.rf] 49)
  have n2 := heap_alloc_new (w.alloc (.cells #[.int .i64 x.r.op, .int .i64 x.r.pl, .string x.r.nm, .int .i64 x.r.num, .slice x.r.ka x.ks.length x.r.kc, .int .u8 (x.r.ty : Int), .int .i64 x.r.cl, .int .i64 x.r.rf] 49)) (.cells #[.int .i64 0, .int .i64 0, .string ⟨#[]⟩, .int .i64 0, .slice none 0 0, .int .u8 0, .int .i64 0, .int .i64 0] 49)
  rw [World.size_alloc] at n2
  have HC1 : Hid (Bx ((w.alloc (.cells #[.int .i64 x.r.op, .int .i64 x.r.pl, .string x.r.nm, .int .i64 x.r.num, .slice x.r.ka x.ks.length x.r.kc, .int .u8 (x.r.ty : Int), .int .i64 x.r.cl, .int .i64 x.r.rf] 49)).alloc (.cells #[.int .i64 0, .int .i64 0, .string ⟨#[]⟩, .int .i64 0, .slice none 0 0, .int .u8 0, .int .i64 0, .int .i64 0] 49)) w.heap.size 49 #[.int .i64 x.r.op, .int .i64 x.r.pl, .string x.r.nm, .int .i64 x.r.num, .slice x.r.ka x.ks.length x.r.kc, .int .u8 (x.r.ty : Int), .int .i64 x.r.cl, .int .i64 x.r.rf]) := hide ((((Below.refl _ _).alloc (Nat.le_refl _) _).block w.heap.size (by simp)).trans n1)
  have HC2 : Hid (Bx ((w.alloc (.cells #[.int .i64 x.r.op, .int .i64 x.r.pl, .string x.r.nm, .int .i64 x.r.num, .slice x.r.ka x.ks.length x.r.kc, .int .u8 (x.r.ty : Int), .int .i64 x.r.cl, .int .i64 x.r.rf] 49)).alloc (.cells #[.int .i64 0, .int .i64 0, .string ⟨#[]⟩, .int .i64 0, .slice none 0 0, .int .u8 0, .int .i64 0, .int .i64 0] 49)) (w.heap.size + 1) 49 #[.int .i64 0, .int .i64 0, .string ⟨#[]⟩, .int .i64 0, .slice none 0 0, .int .u8 0, .int .i64 0, .int .i64 0]) := hide n2
  have HB := hide al
  have H1 := hide hx.1
  have H := hide (show RowAt (exN n) w x.r.ka x.ks from hx.2)
  have HIH := hide IH
  have hl : x.ks.length < 9223372036854775000 := by have := hx.1.fit; omega
  clear al1 al n1 n2 hx IH
  go_enter Try.func18, Try.ntmps18
  go_upto_region 1 with fail
  generalize ((w.alloc (.cells #[.int .i64 x.r.op, .int .i64 x.r.pl, .string x.r.nm, .int .i64 x.r.num, .slice x.r.ka x.ks.length x.r.kc, .int .u8 (x.r.ty : Int), .int .i64 x.r.cl, .int .i64 x.r.rf] 49)).alloc (.cells #[.int .i64 0, .int .i64 0, .string ⟨#[]⟩, .int .i64 0, .slice none 0 0, .int .u8 0, .int .i64 0, .int .i64 0] 49)) = W1 at HB HC1 HC2 ⊢
  have k0 := (unhide HC1).c 4 rfl
  have k1 := (unhide HC1).f 4
  have HR0 : Hid (XRun w (W1.setCell ⟨w.heap.size, 4, none⟩ (.slice none 0 0)) x n (.slice none 0 0) []) := hide ⟨(unhide HC1).set 4 (.slice none 0 0) rfl, (unhide HC2).other ⟨w.heap.size, 4, none⟩ _ (by simp), Bld.nil _ _ _, fun i a b _ hb => by simp at hb, (unhide HB).setCell (p := ⟨w.heap.size, 4, none⟩) (Nat.le_refl _) _⟩
  go_upto_region 3 with fail
  generalize W1.setCell ⟨w.heap.size, 4, none⟩ (.slice none 0 0) = W2 at HR0 ⊢
  clear k0 k1 HB HC1 HC2 W1
  go_wp2_with fail
  go_loopw [11] (fun i wr => ∃ (k : Nat) (M : List Ex) (v : Value), k ≤ x.ks.length ∧ i = .int .i64 (k : Int) ∧ Hid (M.length = k) ∧ Hid (XRun w wr x n v M)) (fun i _ => x.ks.length - (intOf i).toNat)
  case atStart => exact ⟨0, [], .slice none 0 0, by omega, rfl, hide rfl, HR0⟩
  case round =>
    obtain ⟨kk, M, v, hk, rfl, HK, HR⟩ := hrel
    by_cases hlt : kk < x.ks.length
    · have j1 : ((kk : Nat) : Int) < ((x.ks.length : Nat) : Int) := by omega
      have hx := List.getElem?_eq_getElem hlt
      obtain ⟨b, off, eb, hra, hok⟩ := (unhide H).below (unhide HR).bel kk _ hx
      generalize x.ks[kk] = k at hx hra hok
      have hra : wr.rangeAt b (off + kk * 8) (exC k) := hra
      have c0 := hra 0 _ rfl
      have c1 := hra 1 _ rfl
      have c2 := hra 2 _ rfl
      have c3 := hra 3 _ rfl
      have c4 := hra 4 _ rfl
      have c5 := hra 5 _ rfl
      have c6 := hra 6 _ rfl
      have c7 := hra 7 _ rfl
      rw [Nat.add_zero] at c0
      rw [eb]
      have HX := hide hx
      have HXA := hide hok
      clear hx hok hra eb
      go_upto_region 6 with fail
      obtain ⟨va, vc, rfl⟩ := (unhide HR).bld.slice
      obtain ⟨FB, HFB⟩ : ∃ FB, Hid (wr.heap.size = FB) := ⟨_, hide rfl⟩
      obtain ⟨wa, HWa⟩ : ∃ wa, Hid (wr.alloc (Obj.cells #[.int .i64 k.r.op, .int .i64 k.r.pl, .string k.r.nm, .int .i64 k.r.num, .slice k.r.ka k.ks.length k.r.kc, .int .u8 (k.r.ty : Int), .int .i64 k.r.cl, .int .i64 k.r.rf] 49) = wa) := ⟨_, hide rfl⟩
      have hBa : Below wr.heap.size wr wa := by rw [← unhide HWa]; exact (Below.refl _ _).alloc (Nat.le_refl _) _
      have hrow : Bx wa FB 49 #[.int .i64 k.r.op, .int .i64 k.r.pl, .string k.r.nm, .int .i64 k.r.num, .slice k.r.ka k.ks.length k.r.kc, .int .u8 (k.r.ty : Int), .int .i64 k.r.cl, .int .i64 k.r.rf] := by rw [← unhide HWa, ← unhide HFB]; exact heap_alloc_new wr _
      rw [unhide HWa, unhide HFB]
      have s0 := hrow.c 0 rfl
      have s1 := hrow.c 1 rfl
      have s2 := hrow.c 2 rfl
      have s3 := hrow.c 3 rfl
      have s4 := hrow.c 4 rfl
      have s5 := hrow.c 5 rfl
      have s6 := hrow.c 6 rfl
      have s7 := hrow.c 7 rfl
      have hgr := (unhide HR).box.lt
      have hba := (unhide HR).box.below hBa
      have a1 := hba.c 4 rfl
      have hga := hba.lt
      have HBA := hide hBa
      have HPA := hide ((exN n).below ((exN n).below (unhide HXA) hBa) (show Below wa.heap.size wa wa.drew from belowD (Below.refl _ _) 1))
      have HVG : Hid ((Value.slice va M.length vc).ownBlock ≠ some w.heap.size) := hide (fun e => by have := (World.ownsRow.lt (unhide HR).bld.own w.heap.size e).1; omega)
      have hws : w.heap.size + 2 ≤ wr.heap.size := (unhide HR).old.lt
      have HMk : Hid (M.length + 1 ≤ maxLen ∧ (M.length + 1) * 88 ≤ 140737488355328) := hide (by have := unhide HK; have := (unhide H1).fit; unfold maxLen; omega)
      clear c0 c1 c2 c3 c4 c5 c6 c7 hBa hrow hba HWa
      go_region_law (first | (go_simp; go_at_call 18; refine (unhide HIH k wa.drew (unhide HPA)).mono ?_; rintro e w2 ⟨c, rfl, hok2, hsm2, hlo2, hB2⟩; have q1 : w2.cell? ⟨w.heap.size, 4, none⟩ = some (.slice va M.length vc) := (hB2.cell (p := ⟨w.heap.size, 4, none⟩) hga).trans a1; have ne1 := World.new_ne w2 _ q1; have hB3 : Below wr.heap.size wr w2 := (unhide HBA).trans ((show Below wa.heap.size wa w2 from (show Below wa.heap.size wa wa.drew from belowD (Below.refl _ _) 1).trans hB2).mono (unhide HBA).size); have hOd : (w2.alloc (.cells #[.int .i64 c.r.op, .int .i64 c.r.pl, .string c.r.nm, .int .i64 c.r.num, .slice c.r.ka c.ks.length c.r.kc, .int .u8 (c.r.ty : Int), .int .i64 c.r.cl, .int .i64 c.r.rf] 49)).ownsRow (w.heap.size + 2) 49 8 (.slice va M.length vc) M.length (vals (exN n) M) := rowBelow (unhide HR).bld.own (hB3.alloc hB3.size _); have HC2 := hide (And.intro hok2 (And.intro hsm2 hlo2)); have HB3 := hide hB3; have HOd := hide hOd; have hw2 : w.heap.size + 2 ≤ w2.heap.size := Nat.le_trans hws hB3.size; have hg2 : w.heap.size < w2.heap.size := (by omega); clear hok2 hsm2 hlo2 hB3 hOd hB2) | (refine step_append_lies _ (by rfl) _ _ 45 (by rfl) (w.heap.size + 2) 49 i0 _ 8 88 Try.underlying45 hi0 hz0 hz1 hz2 rfl (by omega) (.slice va M.length vc) M.length (vals (exN n) M) (by rfl) (unhide HOd) ⟨w2.heap.size, 0, none⟩ 1 1 (exC c) (by rfl) (by rfl) (World.news_of_block (cs := #[.int .i64 c.r.op, .int .i64 c.r.pl, .string c.r.nm, .int .i64 c.r.num, .slice c.r.ka c.ks.length c.r.kc, .int .u8 (c.r.ty : Int), .int .i64 c.r.cl, .int .i64 c.r.rf]) (t := 49) (fr := (0, 0)) (heap_alloc_new w2 _)) (exC_one _) (by omega) (unhide HMk).1 (unhide HMk).2 (by simp; omega) (w2.heap.size + 1) (by simp) ?_; intro g3 cap3 w3 hown hgrow hat hlt3; have r1 : w3.cell? ⟨w.heap.size, 4, none⟩ = some (.slice va M.length vc) := (hgrow.cell_far ⟨w.heap.size, 4, none⟩ (by simp; omega) (Ne.symm (unhide HVG))).trans ((((Below.refl w2.heap.size w2).alloc (Nat.le_refl _) _).cell (p := ⟨w.heap.size, 4, none⟩) hg2).trans q1); have f1 : w3.frozen? ⟨w.heap.size, 4, none⟩ = false := frozen_of_row _ _ _ _ _ ((hgrow.block w.heap.size (by simp; omega) (Ne.symm (unhide HVG))).trans (((unhide HB3).alloc (unhide HB3).size _).block w.heap.size hgr |>.trans (unhide HR).box)); have HR2 := hide ((unhide HR).step (unhide HB3) (unhide HC2).1 (unhide HC2).2.2 (unhide HBA).size (unhide HC2).2.1 (by rw [unhide HK]; exact unhide HX) hown hgrow hat); have HK2 : Hid ((M ++ [c]).length = kk + 1) := hide (by rw [List.length_append, unhide HK]; rfl); clear hown hgrow hat hlt3))
      all_goals (
        go_wp2
        go_roundw
        case rel => exact ⟨kk + 1, _, _, by omega, by go_num, HK2, HR2⟩
        case measure => simp [intOf]; omega)
    · have j1 : ¬ ((kk : Nat) : Int) < ((x.ks.length : Nat) : Int) := by omega
      have ek : kk = x.ks.length := by omega
      have hln : M.length = x.ks.length := by rw [unhide HK]; exact ek
      obtain ⟨va, vc, rfl⟩ := (unhide HR).bld.slice
      go_upto_region 8 with fail
      have HRX : Hid (Bx (wr.setRow (w.heap.size + 1) #[.int .i64 x.r.op, .int .i64 x.r.pl, .string x.r.nm, .int .i64 x.r.num, .slice va M.length vc, .int .u8 (x.r.ty : Int), .int .i64 x.r.cl, .int .i64 x.r.rf]) (w.heap.size + 1) 49 #[.int .i64 x.r.op, .int .i64 x.r.pl, .string x.r.nm, .int .i64 x.r.num, .slice va M.length vc, .int .u8 (x.r.ty : Int), .int .i64 x.r.cl, .int .i64 x.r.rf]) := hide (setRow_heap _ _ _ _ _ _ (unhide HR).old)
      have hgw := grown_row (W := wr) (w.heap.size + 1) #[.int .i64 x.r.op, .int .i64 x.r.pl, .string x.r.nm, .int .i64 x.r.num, .slice va M.length vc, .int .u8 (x.r.ty : Int), .int .i64 x.r.cl, .int .i64 x.r.rf]
      have hbd := (unhide HR).bld.box hgw (by omega)
      obtain ⟨va', vc', e, hrow, hall, hnil⟩ := hbd.out
      injection e with e1 _ e2
      subst e1
      have HRW := hide (And.intro hrow (And.intro hall hnil))
      have HLN := hide hln
      clear hgw hbd hrow hall hnil e2 hln ek
      go_wp2_with (first | (refine wpList_load_rowG (by kernel_rfl) 49 (.tmp 1) rfl w.heap.size rfl 49 #[.int .i64 x.r.op, .int .i64 x.r.pl, .string x.r.nm, .int .i64 x.r.num, .slice va M.length vc, .int .u8 (x.r.ty : Int), .int .i64 x.r.cl, .int .i64 x.r.rf] (0, 0) _ (unhide HR).box Try.underlying49 rfl (by kernel_rfl) ?_) | (refine wpList_store_row rfl 49 (.tmp 2) (.tmp 23) rfl (w.heap.size + 1) #[.int .i64 x.r.op, .int .i64 x.r.pl, .string x.r.nm, .int .i64 x.r.num, .slice va M.length vc, .int .u8 (x.r.ty : Int), .int .i64 x.r.cl, .int .i64 x.r.rf] rfl rfl 49 #[.int .i64 0, .int .i64 0, .string ⟨#[]⟩, .int .i64 0, .slice none 0 0, .int .u8 0, .int .i64 0, .int .i64 0] (unhide HR).old (by kernel_rfl) rfl (by simp [Value.oneCell']) ?_))
      refine bodyPost_ret (results_bx rfl _ _ (w.heap.size + 1) _ rfl (run_loadVar_row _ _ 49 49 _ (0, 0) _ (unhide HRX) Try.underlying49 rfl (by kernel_rfl))) rfl ⟨.mk { x.r with ka := va, kc := vc } M, rfl, ⟨⟨(unhide HRW).2.2, ?_, (unhide H1).name⟩, (unhide HRW).1⟩, ⟨rfl, rfl, rfl, rfl, rfl, rfl, rfl, unhide HLN, (unhide HR).cps⟩, (unhide HRW).2.1.mono (fun b hb => by omega), below_setRow' (unhide HR).bel (by omega) _⟩
      have := (unhide H1).fit
      show M.length * 88 ≤ _
      rw [unhide HLN]; exact this
theorem Expr_any : ∀ (n : Nat) (x : Ex) (w : World), (exN n).ok w x → Calls Try.prog 18 #[.agg #[.int .i64 x.r.op, .int .i64 x.r.pl, .string x.r.nm, .int .i64 x.r.num, .slice x.r.ka x.ks.length x.r.kc, .int .u8 (x.r.ty : Int), .int .i64 x.r.cl, .int .i64 x.r.rf]] w fun e w' => ∃ c : Ex, e = .returned (.agg #[.int .i64 c.r.op, .int .i64 c.r.pl, .string c.r.nm, .int .i64 c.r.num, .slice c.r.ka c.ks.length c.r.kc, .int .u8 (c.r.ty : Int), .int .i64 c.r.cl, .int .i64 c.r.rf]) ∧ (exN n).ok w' c ∧ sameX n x c ∧ (exN n).all (fun b => w.heap.size ≤ b) c ∧ Below w.heap.size w w'
  | 0, _, _, h => (exN_no h).elim
  | n + 1, x, w, h => Expr_in n (Expr_any n) x w h
end Go.Proofs.Ytjccomjgmejnhaa
