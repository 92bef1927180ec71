/-
  provisoplain.Stmts: statements' copy in memory of its own. Conditions: lengths fit.
-/
import Derived.Test.YtjccomjgmejnhaaKTr3
import Derived.Deep.RegionHeld
namespace Go.Proofs.Ytjccomjgmejnhaa
open Go.RowKit

theorem infoSt : (Try.prog.info? 47).map (fun i => (i.zero, i.size, i.bytes)) = some (some (.agg #[.int .i64 0, .int .i64 0, .string ⟨#[]⟩, .string ⟨#[]⟩, .int .i64 0, .slice none 0 0, .slice none 0 0, .slice none 0 0, .int .u8 0, .int .i64 0]), 10, 144) := by kernel_rfl
theorem stC_one (y : Stm) : ∀ u ∈ stC y, u.oneCell' = true := by
  intro u hu
  simp only [stC, List.mem_cons, List.mem_nil_iff, or_false] at hu
  rcases hu with rfl | rfl | rfl | rfl | rfl | rfl | rfl | rfl | rfl | rfl <;> rfl
/-- While the expressions of a statement are copied. -/
structure SRun (W0 wr : World) (s : Stm) (n : Nat) (v : Value) (M : List Ex) : Prop where
  box : Bx wr (W0.heap.size + 1) 47 #[.int .i64 s.r.op, .int .i64 s.r.pl, .string s.r.nm, .string s.r.of, .int .i64 s.r.num, v, .slice s.r.ba s.bs.length s.r.bc, .slice s.r.la s.ls.length s.r.lc, .int .u8 (s.r.ty : Int), .int .i64 s.r.rf]
  src : Bx wr W0.heap.size 47 #[.int .i64 s.r.op, .int .i64 s.r.pl, .string s.r.nm, .string s.r.of, .int .i64 s.r.num, .slice s.r.ea s.es.length s.r.ec, .slice s.r.ba s.bs.length s.r.bc, .slice s.r.la s.ls.length s.r.lc, .int .u8 (s.r.ty : Int), .int .i64 s.r.rf]
  bld : Bld (exN n) wr (W0.heap.size + 2) v M
  cps : ∀ (i : Nat) a b, s.es[i]? = some a → M[i]? = some b → sameX n a b
  bel : Below W0.heap.size W0 wr
theorem SRun.below {W0 wr w' : World} {s : Stm} {n : Nat} {v : Value} {M : List Ex} (h : SRun W0 wr s n v M) (hb : Below wr.heap.size wr w') : SRun W0 w' s n v M := ⟨h.box.below hb, h.src.below hb, h.bld.below hb, h.cps, h.bel.trans (hb.mono h.bel.size)⟩
theorem SRun.step {w wr w2 w3 : World} {s : Stm} {n : Nat} {v : Value} {M : List Ex} {k c : Ex} {obj : Obj} {g3 cap3 B : Nat} (h : SRun w wr s n v M) (hB : Below wr.heap.size wr w2) (hok : (exN n).ok w2 c) (hlo : (exN n).all (fun b => B ≤ b) c) (hBB : wr.heap.size ≤ B) (hs : sameX n k c) (hk : s.es[M.length]? = some k) (hown : w3.ownsRow (w.heap.size + 2) 49 8 (.slice (some ⟨g3, 0, none⟩) (M.length + 1) cap3) (M.length + 1) (vals (exN n) M ++ exC c)) (hg : (w2.alloc obj).grownBy w3 v.ownBlock) (hat : v.ownBlock = some g3 ∨ g3 = w2.heap.size + 1) : SRun w (w3.setCell ⟨w.heap.size + 1, 5, none⟩ (.slice (some ⟨g3, 0, none⟩) (M.length + 1) cap3)) s n (.slice (some ⟨g3, 0, none⟩) (M.length + 1) cap3) (M ++ [c]) := by
  have hsz : w.heap.size + 2 ≤ wr.heap.size := h.box.lt
  have hB3 : Below wr.heap.size wr (w2.alloc obj) := hB.alloc hB.size _
  have hvg : ∀ q, v.ownBlock = some q → w.heap.size + 2 ≤ q := fun q e => (World.ownsRow.lt h.bld.own q e).1
  have hset := grownBy_set w3 (w.heap.size + 1) 5 (.slice (some ⟨g3, 0, none⟩) (M.length + 1) cap3)
  refine ⟨((h.box.below hB3).grown hg (fun e => by have := hvg _ e; omega)).set 5 _ rfl, ((h.src.below hB3).grown hg (fun e => by have := hvg _ e; omega)).grown hset (fun e => by injection e with e; omega), (h.bld.step hB hok ((exN n).mono (fun b hb => by omega) hlo) hsz hown hg hat).box hset (by omega), ?_, ?_⟩
  · intro i a b ha hb
    by_cases e : i < M.length
    · rw [List.getElem?_append_left e] at hb
      exact h.cps i a b ha hb
    · rw [List.getElem?_append_right (by omega)] at hb
      have e2 : i - M.length = 0 := by
        have := (List.getElem?_eq_some_iff.1 hb).1
        simp at this
        omega
      rw [e2] at hb
      simp at hb
      subst hb
      have e3 : i = M.length := by omega
      subst e3
      rw [hk] at ha
      injection ha with ha
      subst ha
      exact hs
  · have b1 := h.bel.trans (hB3.mono h.bel.size)
    exact (b1.grown hg b1.size (fun q e => by have := hvg q e; omega)).setCell (p := ⟨w.heap.size + 1, 5, none⟩) (by show w.heap.size ≤ w.heap.size + 1; omega) _

theorem st_fin {W0 V2 : World} {s : Stm} {n : Nat} {va ba la : Option Addr} {vc bc lc : Nat} {N : List Ex} {M1 M2 : List Stm} (h : SRun W0 V2 s n (.slice va N.length vc) N) (hok : SOk s) (hN : N.length = s.es.length) (r1 : RowAt (stN n) V2 ba M1) (a1 : RowAll (stN n) (fun b => W0.heap.size + 2 ≤ b) ba M1) (n1 : ba = none → M1 = []) (t1 : Two (sameS n) s.bs M1) (r2 : RowAt (stN n) V2 la M2) (a2 : RowAll (stN n) (fun b => W0.heap.size + 2 ≤ b) la M2) (n2 : la = none → M2 = []) (t2 : Two (sameS n) s.ls M2) :
    Bx ((V2.setCell ⟨W0.heap.size + 1, 6, none⟩ (.slice ba M1.length bc)).setCell ⟨W0.heap.size + 1, 7, none⟩ (.slice la M2.length lc)) (W0.heap.size + 1) 47 #[.int .i64 s.r.op, .int .i64 s.r.pl, .string s.r.nm, .string s.r.of, .int .i64 s.r.num, .slice va N.length vc, .slice ba M1.length bc, .slice la M2.length lc, .int .u8 (s.r.ty : Int), .int .i64 s.r.rf] ∧ (stN (n + 1)).ok ((V2.setCell ⟨W0.heap.size + 1, 6, none⟩ (.slice ba M1.length bc)).setCell ⟨W0.heap.size + 1, 7, none⟩ (.slice la M2.length lc)) (.mk { s.r with ea := va, ec := vc, ba := ba, bc := bc, la := la, lc := lc } N M1 M2) ∧ (stN (n + 1)).all (fun b => W0.heap.size ≤ b) (.mk { s.r with ea := va, ec := vc, ba := ba, bc := bc, la := la, lc := lc } N M1 M2) ∧ sameS (n + 1) s (.mk { s.r with ea := va, ec := vc, ba := ba, bc := bc, la := la, lc := lc } N M1 M2) ∧ Below W0.heap.size W0 ((V2.setCell ⟨W0.heap.size + 1, 6, none⟩ (.slice ba M1.length bc)).setCell ⟨W0.heap.size + 1, 7, none⟩ (.slice la M2.length lc)) := by
  have s1 := grownBy_set V2 (W0.heap.size + 1) 6 (.slice ba M1.length bc)
  have s2 := grownBy_set (V2.setCell ⟨W0.heap.size + 1, 6, none⟩ (.slice ba M1.length bc)) (W0.heap.size + 1) 7 (.slice la M2.length lc)
  have ne : ∀ b, W0.heap.size + 2 ≤ b → b ≠ W0.heap.size + 1 := fun b hb => by omega
  have lo : ∀ b, W0.heap.size + 2 ≤ b → W0.heap.size ≤ b := fun b hb => by omega
  obtain ⟨va', vc', e, hr, hall, hnil⟩ := ((h.bld.box s1 (by omega)).box s2 (by omega)).out
  injection e with e1 _ e2
  subst e1
  have f1 := hok.fitE
  have f2 := hok.fitB
  have f3 := hok.fitL
  refine ⟨(h.box.set 6 (.slice ba M1.length bc) (cs' := #[.int .i64 s.r.op, .int .i64 s.r.pl, .string s.r.nm, .string s.r.of, .int .i64 s.r.num, .slice va N.length vc, .slice ba M1.length bc, .slice s.r.la s.ls.length s.r.lc, .int .u8 (s.r.ty : Int), .int .i64 s.r.rf]) rfl).set 7 (.slice la M2.length lc) rfl, ⟨⟨hnil, n1, n2, by show N.length * 88 ≤ _; rw [hN]; exact f1, by show M1.length * 144 ≤ _; rw [t1.1]; exact f2, by show M2.length * 144 ≤ _; rw [t2.1]; exact f3, hok.name, hok.nmOf⟩, hr, (r1.far s1 (a1.mono ne)).far s2 (a1.mono ne), (r2.far s1 (a2.mono ne)).far s2 (a2.mono ne)⟩, ⟨hall.mono lo, a1.mono lo, a2.mono lo⟩, ⟨⟨rfl, rfl, rfl, rfl, rfl, rfl, rfl⟩, ⟨hN, h.cps⟩, t1, t2⟩, ?_⟩
  exact (h.bel.setCell (p := ⟨W0.heap.size + 1, 6, none⟩) (by show W0.heap.size ≤ W0.heap.size + 1; omega) _).setCell (p := ⟨W0.heap.size + 1, 7, none⟩) (by show W0.heap.size ≤ W0.heap.size + 1; omega) _

set_option maxHeartbeats 4000000 in
theorem Stmts_zero (ao : Option Addr) (cap : Nat) (T : List Stm) (w : World) (hT : RowAt (stN 0) w ao T) (hz : T.length * 144 ≤ 140737488351232) :
    Calls Try.prog 9 #[.slice ao T.length cap] w fun e w' => ∃ va vc M, e = .returned (.slice va (M : List Stm).length vc) ∧ RowAt (stN 0) w' va M ∧ RowAll (stN 0) (fun b => w.heap.size ≤ b) va M ∧ (va = none → M = []) ∧ Two (sameS 0) T M ∧ Below w.heap.size w w' := by
  obtain ⟨i0, hi0, hz0, hz1, hz2⟩ := info_parts infoEx
  obtain ⟨i1, hi1, hy0, hy1, hy2⟩ := info_parts infoSt
  have HT := hide hT
  have HZ := hide hz
  have hl : T.length < 9223372036854775000 := by omega
  clear hT hz
  go_enter Try.func9, Try.ntmps9
  go_wp2_with fail
  go_loopw [3, 11] (fun v i wr => ∃ (k : Nat) (M : List Stm), k ≤ T.length ∧ i = .int .i64 (k : Int) ∧ Hid (M.length = k) ∧ Hid (Bld (stN 0) wr w.heap.size v M) ∧ Hid (∀ (i : Nat) a b, T[i]? = some a → M[i]? = some b → sameS 0 a b) ∧ Hid (Below w.heap.size w wr)) (fun _ i _ => T.length - (intOf i).toNat)
  case atStart => exact ⟨0, [], by omega, rfl, hide rfl, hide (Bld.nil _ _ _), hide (fun i a b _ hb => by simp at hb), hide (Below.refl _ _)⟩
  case round =>
    obtain ⟨k, M, hk, rfl, HK, HBL, HC, HBr⟩ := hrel
    by_cases hlt : k < T.length
    rotate_left
    · have j1 : ¬ ((k : Nat) : Int) < ((T.length : Nat) : Int) := by omega
      have ek : M.length = T.length := by have := unhide HK; omega
      obtain ⟨va, vc, rfl, hrow, hall, hnil⟩ := (unhide HBL).out
      have HR := hide (And.intro hrow (And.intro hall (And.intro hnil ek)))
      clear hrow hall hnil ek
      go_wp2
      go_ret
      exact ⟨va, vc, M, rfl, (unhide HR).1, (unhide HR).2.1, (unhide HR).2.2.1, ⟨(unhide HR).2.2.2, unhide HC⟩, unhide HBr⟩
    have j1 : ((k : Nat) : Int) < ((T.length : Nat) : Int) := by omega
    obtain ⟨va0, vc0, rfl⟩ := (unhide HBL).slice
    have hx := List.getElem?_eq_getElem hlt
    obtain ⟨b, off, eb, hra, hok⟩ := (unhide HT).below (unhide HBr) k _ hx
    exact (show False from hok).elim

set_option maxRecDepth 20000 in
set_option maxHeartbeats 16000000 in
theorem Stmts_in (n : Nat) (IH : ∀ (ao : Option Addr) (cap : Nat) (T : List Stm) (w : World), RowAt (stN n) w ao T → T.length * 144 ≤ 140737488351232 → Calls Try.prog 9 #[.slice ao T.length cap] w fun e w' => ∃ va vc M, e = .returned (.slice va (M : List Stm).length vc) ∧ RowAt (stN n) w' va M ∧ RowAll (stN n) (fun b => w.heap.size ≤ b) va M ∧ (va = none → M = []) ∧ Two (sameS n) T M ∧ Below w.heap.size w w') (ao : Option Addr) (cap : Nat) (T : List Stm) (w : World) (hT : RowAt (stN (n + 1)) w ao T) (hz : T.length * 144 ≤ 140737488351232) :
    Calls Try.prog 9 #[.slice ao T.length cap] w fun e w' => ∃ va vc M, e = .returned (.slice va (M : List Stm).length vc) ∧ RowAt (stN (n + 1)) w' va M ∧ RowAll (stN (n + 1)) (fun b => w.heap.size ≤ b) va M ∧ (va = none → M = []) ∧ Two (sameS (n + 1)) T M ∧ Below w.heap.size w w' := by
  obtain ⟨i0, hi0, hz0, hz1, hz2⟩ := info_parts infoEx
  obtain ⟨i1, hi1, hy0, hy1, hy2⟩ := info_parts infoSt
  have HT := hide hT
  have HZ := hide hz
  have hl : T.length < 9223372036854775000 := by omega
  clear hT hz
  go_enter Try.func9, Try.ntmps9
  go_wp2_with fail
  go_loopw [3, 11] (fun v i wr => ∃ (k : Nat) (M : List Stm), k ≤ T.length ∧ i = .int .i64 (k : Int) ∧ Hid (M.length = k) ∧ Hid (Bld (stN (n + 1)) wr w.heap.size v M) ∧ Hid (∀ (i : Nat) a b, T[i]? = some a → M[i]? = some b → sameS (n + 1) a b) ∧ Hid (Below w.heap.size w wr)) (fun _ i _ => T.length - (intOf i).toNat)
  case atStart => exact ⟨0, [], by omega, rfl, hide rfl, hide (Bld.nil _ _ _), hide (fun i a b _ hb => by simp at hb), hide (Below.refl _ _)⟩
  case round =>
    obtain ⟨k, M, hk, rfl, HK, HBL, HC, HBr⟩ := hrel
    by_cases hlt : k < T.length
    rotate_left
    · have j1 : ¬ ((k : Nat) : Int) < ((T.length : Nat) : Int) := by omega
      have ek : M.length = T.length := by have := unhide HK; omega
      obtain ⟨va, vc, rfl, hrow, hall, hnil⟩ := (unhide HBL).out
      have HR := hide (And.intro hrow (And.intro hall (And.intro hnil ek)))
      clear hrow hall hnil ek
      go_wp2
      go_ret
      exact ⟨va, vc, M, rfl, (unhide HR).1, (unhide HR).2.1, (unhide HR).2.2.1, ⟨(unhide HR).2.2.2, unhide HC⟩, unhide HBr⟩
    have j1 : ((k : Nat) : Int) < ((T.length : Nat) : Int) := by omega
    obtain ⟨va0, vc0, rfl⟩ := (unhide HBL).slice
    have hx := List.getElem?_eq_getElem hlt
    obtain ⟨b, off, eb, hra, hok⟩ := (unhide HT).below (unhide HBr) k _ hx
    generalize T[k] = s at hx hra hok
    have hra : wr.rangeAt b (off + k * 10) (stC s) := hra
    have c0 := hra 0 _ rfl
    have c1 := hra 1 _ rfl
    have c2 := hra 2 _ rfl
    have c3 := hra 3 _ rfl
    have c4 := hra 4 _ rfl
    have c5 := hra 5 _ rfl
    have c6 := hra 6 _ rfl
    have c7 := hra 7 _ rfl
    have c8 := hra 8 _ rfl
    have c9 := hra 9 _ rfl
    rw [Nat.add_zero] at c0
    rw [eb]
    have HX := hide hx
    have HXA := hide hok
    have HIH := hide IH
    have lb := World.block_lt_of_cell? wr _ c0
    clear hx hok hra eb IH
    have a1 := heap_alloc_new wr (.cells #[.int .i64 s.r.op, .int .i64 s.r.pl, .string s.r.nm, .string s.r.of, .int .i64 s.r.num, .slice s.r.ea s.es.length s.r.ec, .slice s.r.ba s.bs.length s.r.bc, .slice s.r.la s.ls.length s.r.lc, .int .u8 (s.r.ty : Int), .int .i64 s.r.rf] 47)
    have al1 : Below wr.heap.size wr (wr.alloc (.cells #[.int .i64 s.r.op, .int .i64 s.r.pl, .string s.r.nm, .string s.r.of, .int .i64 s.r.num, .slice s.r.ea s.es.length s.r.ec, .slice s.r.ba s.bs.length s.r.bc, .slice s.r.la s.ls.length s.r.lc, .int .u8 (s.r.ty : Int), .int .i64 s.r.rf] 47)) := (Below.refl _ _).alloc (Nat.le_refl _) _
    have al2 : Below wr.heap.size wr ((wr.alloc (.cells #[.int .i64 s.r.op, .int .i64 s.r.pl, .string s.r.nm, .string s.r.of, .int .i64 s.r.num, .slice s.r.ea s.es.length s.r.ec, .slice s.r.ba s.bs.length s.r.bc, .slice s.r.la s.ls.length s.r.lc, .int .u8 (s.r.ty : Int), .int .i64 s.r.rf] 47)).alloc (.cells #[.int .i64 s.r.op, .int .i64 s.r.pl, .string s.r.nm, .string s.r.of, .int .i64 s.r.num, .slice s.r.ea s.es.length s.r.ec, .slice s.r.ba s.bs.length s.r.bc, .slice s.r.la s.ls.length s.r.lc, .int .u8 (s.r.ty : Int), .int .i64 s.r.rf] 47)) := al1.alloc (by simp) _
    have a2 : Bx ((wr.alloc (.cells #[.int .i64 s.r.op, .int .i64 s.r.pl, .string s.r.nm, .string s.r.of, .int .i64 s.r.num, .slice s.r.ea s.es.length s.r.ec, .slice s.r.ba s.bs.length s.r.bc, .slice s.r.la s.ls.length s.r.lc, .int .u8 (s.r.ty : Int), .int .i64 s.r.rf] 47)).alloc (.cells #[.int .i64 s.r.op, .int .i64 s.r.pl, .string s.r.nm, .string s.r.of, .int .i64 s.r.num, .slice s.r.ea s.es.length s.r.ec, .slice s.r.ba s.bs.length s.r.bc, .slice s.r.la s.ls.length s.r.lc, .int .u8 (s.r.ty : Int), .int .i64 s.r.rf] 47)) (wr.heap.size + 1) 47 #[.int .i64 s.r.op, .int .i64 s.r.pl, .string s.r.nm, .string s.r.of, .int .i64 s.r.num, .slice s.r.ea s.es.length s.r.ec, .slice s.r.ba s.bs.length s.r.bc, .slice s.r.la s.ls.length s.r.lc, .int .u8 (s.r.ty : Int), .int .i64 s.r.rf] := by have := heap_alloc_new (wr.alloc (.cells #[.int .i64 s.r.op, .int .i64 s.r.pl, .string s.r.nm, .string s.r.of, .int .i64 s.r.num, .slice s.r.ea s.es.length s.r.ec, .slice s.r.ba s.bs.length s.r.bc, .slice s.r.la s.ls.length s.r.lc, .int .u8 (s.r.ty : Int), .int .i64 s.r.rf] 47)) (.cells #[.int .i64 s.r.op, .int .i64 s.r.pl, .string s.r.nm, .string s.r.of, .int .i64 s.r.num, .slice s.r.ea s.es.length s.r.ec, .slice s.r.ba s.bs.length s.r.bc, .slice s.r.la s.ls.length s.r.lc, .int .u8 (s.r.ty : Int), .int .i64 s.r.rf] 47); rw [World.size_alloc] at this; exact this
    have a3 : Bx ((wr.alloc (.cells #[.int .i64 s.r.op, .int .i64 s.r.pl, .string s.r.nm, .string s.r.of, .int .i64 s.r.num, .slice s.r.ea s.es.length s.r.ec, .slice s.r.ba s.bs.length s.r.bc, .slice s.r.la s.ls.length s.r.lc, .int .u8 (s.r.ty : Int), .int .i64 s.r.rf] 47)).alloc (.cells #[.int .i64 s.r.op, .int .i64 s.r.pl, .string s.r.nm, .string s.r.of, .int .i64 s.r.num, .slice s.r.ea s.es.length s.r.ec, .slice s.r.ba s.bs.length s.r.bc, .slice s.r.la s.ls.length s.r.lc, .int .u8 (s.r.ty : Int), .int .i64 s.r.rf] 47)) wr.heap.size 47 #[.int .i64 s.r.op, .int .i64 s.r.pl, .string s.r.nm, .string s.r.of, .int .i64 s.r.num, .slice s.r.ea s.es.length s.r.ec, .slice s.r.ba s.bs.length s.r.bc, .slice s.r.la s.ls.length s.r.lc, .int .u8 (s.r.ty : Int), .int .i64 s.r.rf] := (((Below.refl _ _).alloc (Nat.le_refl _) _).block wr.heap.size (by simp)).trans a1
    go_upto_region 5 with fail
    clear c0 c1 c2 c3 c4 c5 c6 c7 c8 c9
    have t0 : (wr.alloc (.cells #[.int .i64 s.r.op, .int .i64 s.r.pl, .string s.r.nm, .string s.r.of, .int .i64 s.r.num, .slice s.r.ea s.es.length s.r.ec, .slice s.r.ba s.bs.length s.r.bc, .slice s.r.la s.ls.length s.r.lc, .int .u8 (s.r.ty : Int), .int .i64 s.r.rf] 47)).cell? ⟨wr.heap.size, 0, none⟩ = some _ := cell_of_row _ _ 0 _ _ _ a1
    have t1 : (wr.alloc (.cells #[.int .i64 s.r.op, .int .i64 s.r.pl, .string s.r.nm, .string s.r.of, .int .i64 s.r.num, .slice s.r.ea s.es.length s.r.ec, .slice s.r.ba s.bs.length s.r.bc, .slice s.r.la s.ls.length s.r.lc, .int .u8 (s.r.ty : Int), .int .i64 s.r.rf] 47)).cell? ⟨wr.heap.size, 1, none⟩ = some _ := cell_of_row _ _ 1 _ _ _ a1
    have t2 : (wr.alloc (.cells #[.int .i64 s.r.op, .int .i64 s.r.pl, .string s.r.nm, .string s.r.of, .int .i64 s.r.num, .slice s.r.ea s.es.length s.r.ec, .slice s.r.ba s.bs.length s.r.bc, .slice s.r.la s.ls.length s.r.lc, .int .u8 (s.r.ty : Int), .int .i64 s.r.rf] 47)).cell? ⟨wr.heap.size, 2, none⟩ = some _ := cell_of_row _ _ 2 _ _ _ a1
    have t3 : (wr.alloc (.cells #[.int .i64 s.r.op, .int .i64 s.r.pl, .string s.r.nm, .string s.r.of, .int .i64 s.r.num, .slice s.r.ea s.es.length s.r.ec, .slice s.r.ba s.bs.length s.r.bc, .slice s.r.la s.ls.length s.r.lc, .int .u8 (s.r.ty : Int), .int .i64 s.r.rf] 47)).cell? ⟨wr.heap.size, 3, none⟩ = some _ := cell_of_row _ _ 3 _ _ _ a1
    have t4 : (wr.alloc (.cells #[.int .i64 s.r.op, .int .i64 s.r.pl, .string s.r.nm, .string s.r.of, .int .i64 s.r.num, .slice s.r.ea s.es.length s.r.ec, .slice s.r.ba s.bs.length s.r.bc, .slice s.r.la s.ls.length s.r.lc, .int .u8 (s.r.ty : Int), .int .i64 s.r.rf] 47)).cell? ⟨wr.heap.size, 4, none⟩ = some _ := cell_of_row _ _ 4 _ _ _ a1
    have t5 : (wr.alloc (.cells #[.int .i64 s.r.op, .int .i64 s.r.pl, .string s.r.nm, .string s.r.of, .int .i64 s.r.num, .slice s.r.ea s.es.length s.r.ec, .slice s.r.ba s.bs.length s.r.bc, .slice s.r.la s.ls.length s.r.lc, .int .u8 (s.r.ty : Int), .int .i64 s.r.rf] 47)).cell? ⟨wr.heap.size, 5, none⟩ = some _ := cell_of_row _ _ 5 _ _ _ a1
    have t6 : (wr.alloc (.cells #[.int .i64 s.r.op, .int .i64 s.r.pl, .string s.r.nm, .string s.r.of, .int .i64 s.r.num, .slice s.r.ea s.es.length s.r.ec, .slice s.r.ba s.bs.length s.r.bc, .slice s.r.la s.ls.length s.r.lc, .int .u8 (s.r.ty : Int), .int .i64 s.r.rf] 47)).cell? ⟨wr.heap.size, 6, none⟩ = some _ := cell_of_row _ _ 6 _ _ _ a1
    have t7 : (wr.alloc (.cells #[.int .i64 s.r.op, .int .i64 s.r.pl, .string s.r.nm, .string s.r.of, .int .i64 s.r.num, .slice s.r.ea s.es.length s.r.ec, .slice s.r.ba s.bs.length s.r.bc, .slice s.r.la s.ls.length s.r.lc, .int .u8 (s.r.ty : Int), .int .i64 s.r.rf] 47)).cell? ⟨wr.heap.size, 7, none⟩ = some _ := cell_of_row _ _ 7 _ _ _ a1
    have t8 : (wr.alloc (.cells #[.int .i64 s.r.op, .int .i64 s.r.pl, .string s.r.nm, .string s.r.of, .int .i64 s.r.num, .slice s.r.ea s.es.length s.r.ec, .slice s.r.ba s.bs.length s.r.bc, .slice s.r.la s.ls.length s.r.lc, .int .u8 (s.r.ty : Int), .int .i64 s.r.rf] 47)).cell? ⟨wr.heap.size, 8, none⟩ = some _ := cell_of_row _ _ 8 _ _ _ a1
    have t9 : (wr.alloc (.cells #[.int .i64 s.r.op, .int .i64 s.r.pl, .string s.r.nm, .string s.r.of, .int .i64 s.r.num, .slice s.r.ea s.es.length s.r.ec, .slice s.r.ba s.bs.length s.r.bc, .slice s.r.la s.ls.length s.r.lc, .int .u8 (s.r.ty : Int), .int .i64 s.r.rf] 47)).cell? ⟨wr.heap.size, 9, none⟩ = some _ := cell_of_row _ _ 9 _ _ _ a1
    go_upto_region 6 with fail
    have HQ1 := hide a2
    have HQ2 := hide a3
    have HAL := hide al2
    clear t0 t1 t2 t3 t4 t5 t6 t7 t8 t9 a1 a2 a3 al1 al2
    generalize ((wr.alloc (.cells #[.int .i64 s.r.op, .int .i64 s.r.pl, .string s.r.nm, .string s.r.of, .int .i64 s.r.num, .slice s.r.ea s.es.length s.r.ec, .slice s.r.ba s.bs.length s.r.bc, .slice s.r.la s.ls.length s.r.lc, .int .u8 (s.r.ty : Int), .int .i64 s.r.rf] 47)).alloc (.cells #[.int .i64 s.r.op, .int .i64 s.r.pl, .string s.r.nm, .string s.r.of, .int .i64 s.r.num, .slice s.r.ea s.es.length s.r.ec, .slice s.r.ba s.bs.length s.r.bc, .slice s.r.la s.ls.length s.r.lc, .int .u8 (s.r.ty : Int), .int .i64 s.r.rf] 47)) = W1 at HQ1 HQ2 HAL ⊢
    have k0 := (unhide HQ1).c 5 rfl
    have k1 := (unhide HQ1).f 5
    have HR0 : Hid (SRun wr (W1.setCell ⟨wr.heap.size + 1, 5, none⟩ (.slice none 0 0)) s n (.slice none 0 0) []) := hide ⟨(unhide HQ1).set 5 (.slice none 0 0) rfl, (unhide HQ2).other ⟨wr.heap.size + 1, 5, none⟩ _ (by simp), Bld.nil _ _ _, fun i a b _ hb => by simp at hb, (unhide HAL).setCell (p := ⟨wr.heap.size + 1, 5, none⟩) (by show wr.heap.size ≤ wr.heap.size + 1; omega) _⟩
    go_upto_region 7 with fail
    generalize W1.setCell ⟨wr.heap.size + 1, 5, none⟩ (.slice none 0 0) = W2 at HR0 ⊢
    clear k0 k1 HQ1 HQ2 HAL W1
    have k0 := (unhide HR0).src.c 5 rfl
    have hle : s.es.length < 9223372036854775000 := by have := (unhide HXA).1.fitE; omega
    go_wp2_with fail
    clear k0
    obtain ⟨W0, HW0⟩ : ∃ q, q = wr := ⟨_, rfl⟩
    subst HW0
    go_loopw [20] (fun i wr => ∃ (kk : Nat) (M : List Ex) (v : Value), kk ≤ s.es.length ∧ i = .int .i64 (kk : Int) ∧ Hid (M.length = kk) ∧ Hid (SRun W0 wr s n v M)) (fun i _ => s.es.length - (intOf i).toNat)
    case atStart => exact ⟨0, [], .slice none 0 0, by omega, rfl, hide rfl, HR0⟩
    case round =>
      obtain ⟨kk, N, v, hkk, rfl, HKK, HR⟩ := hrel
      by_cases hlj : kk < s.es.length
      · have i3 : ((kk : Nat) : Int) < ((s.es.length : Nat) : Int) := by omega
        have hx := List.getElem?_eq_getElem hlj
        obtain ⟨b, off, eb, hra, hok⟩ := (unhide HXA).2.1.below (unhide HR).bel kk _ hx
        generalize s.es[kk] = k2 at hx hra hok
        have hra : wr.rangeAt b (off + kk * 8) (exC k2) := hra
        have c0 := hra 0 _ rfl
        have c1 := hra 1 _ rfl
        have c2 := hra 2 _ rfl
        have c3 := hra 3 _ rfl
        have c4 := hra 4 _ rfl
        have c5 := hra 5 _ rfl
        have c6 := hra 6 _ rfl
        have c7 := hra 7 _ rfl
        rw [Nat.add_zero] at c0
        rw [eb]
        have HXE := hide hx
        have HXO := hide hok
        clear hx hok hra eb
        go_upto_region 10 with fail
        obtain ⟨va, vc, rfl⟩ := (unhide HR).bld.slice
        obtain ⟨FB, HFB⟩ : ∃ FB, Hid (wr.heap.size = FB) := ⟨_, hide rfl⟩
        obtain ⟨wa, HWa⟩ : ∃ wa, Hid (wr.alloc (Obj.cells #[.int .i64 k2.r.op, .int .i64 k2.r.pl, .string k2.r.nm, .int .i64 k2.r.num, .slice k2.r.ka k2.ks.length k2.r.kc, .int .u8 (k2.r.ty : Int), .int .i64 k2.r.cl, .int .i64 k2.r.rf] 49) = wa) := ⟨_, hide rfl⟩
        have hBa : Below wr.heap.size wr wa := by rw [← unhide HWa]; exact (Below.refl _ _).alloc (Nat.le_refl _) _
        have hrow : Bx wa FB 49 #[.int .i64 k2.r.op, .int .i64 k2.r.pl, .string k2.r.nm, .int .i64 k2.r.num, .slice k2.r.ka k2.ks.length k2.r.kc, .int .u8 (k2.r.ty : Int), .int .i64 k2.r.cl, .int .i64 k2.r.rf] := by rw [← unhide HWa, ← unhide HFB]; exact heap_alloc_new wr _
        rw [unhide HWa, unhide HFB]
        have s0 := hrow.c 0 rfl
        have s1 := hrow.c 1 rfl
        have s2 := hrow.c 2 rfl
        have s3 := hrow.c 3 rfl
        have s4 := hrow.c 4 rfl
        have s5 := hrow.c 5 rfl
        have s6 := hrow.c 6 rfl
        have s7 := hrow.c 7 rfl
        have hgr := (unhide HR).box.lt
        have hba := (unhide HR).box.below hBa
        have a1 := hba.c 5 rfl
        have hga := hba.lt
        have HBA := hide hBa
        have HPA := hide ((exN n).below ((exN n).below (unhide HXO) hBa) (show Below wa.heap.size wa wa.drew from belowD (Below.refl _ _) 1))
        have HVG : Hid ((Value.slice va N.length vc).ownBlock ≠ some (W0.heap.size + 1)) := hide (fun e => by have := (World.ownsRow.lt (unhide HR).bld.own (W0.heap.size + 1) e).1; omega)
        have hws : W0.heap.size + 2 ≤ wr.heap.size := (unhide HR).box.lt
        have HMk : Hid (N.length + 1 ≤ maxLen ∧ (N.length + 1) * 88 ≤ 140737488355328) := hide (by have := unhide HKK; have := (unhide HXA).1.fitE; unfold maxLen; omega)
        clear c0 c1 c2 c3 c4 c5 c6 c7 hBa hrow hba HWa
        go_region_law (first | (go_simp; go_at_call 18; refine (Expr_any n k2 wa.drew (unhide HPA)).mono ?_; rintro e w2 ⟨c, rfl, hok2, hsm2, hlo2, hB2⟩; have q1 : w2.cell? ⟨W0.heap.size + 1, 5, none⟩ = some (.slice va N.length vc) := (hB2.cell (p := ⟨W0.heap.size + 1, 5, none⟩) hga).trans a1; have ne1 := World.new_ne w2 _ q1; have hB3 : Below wr.heap.size wr w2 := (unhide HBA).trans ((show Below wa.heap.size wa w2 from (show Below wa.heap.size wa wa.drew from belowD (Below.refl _ _) 1).trans hB2).mono (unhide HBA).size); have hOd : (w2.alloc (.cells #[.int .i64 c.r.op, .int .i64 c.r.pl, .string c.r.nm, .int .i64 c.r.num, .slice c.r.ka c.ks.length c.r.kc, .int .u8 (c.r.ty : Int), .int .i64 c.r.cl, .int .i64 c.r.rf] 49)).ownsRow (W0.heap.size + 2) 49 8 (.slice va N.length vc) N.length (vals (exN n) N) := rowBelow (unhide HR).bld.own (hB3.alloc hB3.size _); have HC2 := hide (And.intro hok2 (And.intro hsm2 hlo2)); have HB3 := hide hB3; have HOd := hide hOd; have hw2 : W0.heap.size + 2 ≤ w2.heap.size := Nat.le_trans hws hB3.size; have hg2 : W0.heap.size + 1 < w2.heap.size := (by omega); clear hok2 hsm2 hlo2 hB3 hOd hB2) | (refine step_append_lies _ (by rfl) _ _ 45 (by rfl) (W0.heap.size + 2) 49 i0 _ 8 88 Try.underlying45 hi0 hz0 hz1 hz2 rfl (by omega) (.slice va N.length vc) N.length (vals (exN n) N) (by rfl) (unhide HOd) ⟨w2.heap.size, 0, none⟩ 1 1 (exC c) (by rfl) (by rfl) (World.news_of_block (cs := #[.int .i64 c.r.op, .int .i64 c.r.pl, .string c.r.nm, .int .i64 c.r.num, .slice c.r.ka c.ks.length c.r.kc, .int .u8 (c.r.ty : Int), .int .i64 c.r.cl, .int .i64 c.r.rf]) (t := 49) (fr := (0, 0)) (heap_alloc_new w2 _)) (exC_one _) (by omega) (unhide HMk).1 (unhide HMk).2 (by simp; omega) (w2.heap.size + 1) (by simp) ?_; intro g3 cap3 w3 hown hgrow hat hlt3; have r1 : w3.cell? ⟨W0.heap.size + 1, 5, none⟩ = some (.slice va N.length vc) := (hgrow.cell_far ⟨W0.heap.size + 1, 5, none⟩ (by simp; omega) (Ne.symm (unhide HVG))).trans ((((Below.refl w2.heap.size w2).alloc (Nat.le_refl _) _).cell (p := ⟨W0.heap.size + 1, 5, none⟩) hg2).trans q1); have f1 : w3.frozen? ⟨W0.heap.size + 1, 5, none⟩ = false := frozen_of_row _ _ _ _ _ ((hgrow.block (W0.heap.size + 1) (by simp; omega) (Ne.symm (unhide HVG))).trans (((unhide HB3).alloc (unhide HB3).size _).block (W0.heap.size + 1) hgr |>.trans (unhide HR).box)); have HR2 := hide ((unhide HR).step (unhide HB3) (unhide HC2).1 (unhide HC2).2.2 (unhide HBA).size (unhide HC2).2.1 (by rw [unhide HKK]; exact unhide HXE) hown hgrow hat); have HK2 : Hid ((N ++ [c]).length = kk + 1) := hide (by rw [List.length_append, unhide HKK]; rfl); clear hown hgrow hat hlt3))
        all_goals (
          go_wp2
          go_roundw
          case rel => exact ⟨kk + 1, _, _, by omega, by go_num, HK2, HR2⟩
          case measure => simp [intOf]; omega)
      · have i3 : ¬ ((kk : Nat) : Int) < ((s.es.length : Nat) : Int) := by omega
        have hln : N.length = s.es.length := by have := unhide HKK; omega
        obtain ⟨va, vc, rfl⟩ := (unhide HR).bld.slice
        have HLN := hide hln
        clear hln
        go_upto_region 12 with fail
        go_cut [6] (fun s6 wx => s6 = .pointer (some ⟨W0.heap.size + 1, 0, none⟩) ∧ ∃ ba1 bc1 M1 la1 lc1 M2, Hid (Bx wx (W0.heap.size + 1) 47 #[.int .i64 s.r.op, .int .i64 s.r.pl, .string s.r.nm, .string s.r.of, .int .i64 s.r.num, .slice va N.length vc, .slice ba1 M1.length bc1, .slice la1 M2.length lc1, .int .u8 (s.r.ty : Int), .int .i64 s.r.rf] ∧ (stN (n + 1)).ok wx (Stm.mk { s.r with ea := va, ec := vc, ba := ba1, bc := bc1, la := la1, lc := lc1 } N M1 M2) ∧ (stN (n + 1)).all (fun b => W0.heap.size ≤ b) (Stm.mk { s.r with ea := va, ec := vc, ba := ba1, bc := bc1, la := la1, lc := lc1 } N M1 M2) ∧ sameS (n + 1) s (Stm.mk { s.r with ea := va, ec := vc, ba := ba1, bc := bc1, la := la1, lc := lc1 } N M1 M2) ∧ Below W0.heap.size W0 wx))
        case first =>
          have HS0 := hide (show Bx wr.drew W0.heap.size 47 #[.int .i64 s.r.op, .int .i64 s.r.pl, .string s.r.nm, .string s.r.of, .int .i64 s.r.num, .slice s.r.ea s.es.length s.r.ec, .slice s.r.ba s.bs.length s.r.bc, .slice s.r.la s.ls.length s.r.lc, .int .u8 (s.r.ty : Int), .int .i64 s.r.rf] from (unhide HR).src)
          refine wp_region_held_drew (S := fun w' => Bx w' W0.heap.size 47 #[.int .i64 s.r.op, .int .i64 s.r.pl, .string s.r.nm, .string s.r.of, .int .i64 s.r.num, .slice s.r.ea s.es.length s.r.ec, .slice s.r.ba s.bs.length s.r.bc, .slice s.r.la s.ls.length s.r.lc, .int .u8 (s.r.ty : Int), .int .i64 s.r.rf]) (by kernel_rfl) (unhide HS0) (fun hS => ?_)
          have hD : Below wr.heap.size wr wr.drew := belowD (Below.refl _ _) 1
          have HRd := hide ((unhide HR).below hD)
          have hws : W0.heap.size + 2 ≤ wr.drew.heap.size := (unhide HR).box.lt
          generalize wr.drew = Wd at hS HRd hws hD ⊢
          clear HR HS0
          refine wpAnyH_take (i := 0) (v := .pointer (some ⟨W0.heap.size, 6, none⟩)) rfl (by kernel_rfl) (by kernel_rfl) (by kernel_rfl) (fun _ _ _ h => h) (Or.inl ⟨by rfl, fun w _ => by go_simp⟩) hS ?_
          refine wpAnyH_take (i := 1) (v := .slice s.r.ba s.bs.length s.r.bc) rfl (by kernel_rfl) (by kernel_rfl) (by kernel_rfl) (fun _ _ _ h => h) (Or.inl ⟨by rfl, fun W h => by have h0 := Bx.c h 6 rfl; go_simp⟩) hS ?_
          go_simp
          refine wpAnyH_take (i := 3) (v := .pointer (some ⟨W0.heap.size, 7, none⟩)) rfl (by kernel_rfl) (by kernel_rfl) (by kernel_rfl) (fun _ _ _ h => h) (Or.inl ⟨by rfl, fun w _ => by go_simp⟩) hS ?_
          refine wpAnyH_take (i := 4) (v := .slice s.r.la s.ls.length s.r.lc) rfl (by kernel_rfl) (by kernel_rfl) (by kernel_rfl) (fun _ _ _ h => h) (Or.inl ⟨by rfl, fun W h => by have h0 := Bx.c h 7 rfl; go_simp⟩) hS ?_
          go_simp
          refine wpAnyH_ready (rs := [2]) (by kernel_rfl) (by simp) ?_
          refine AllReadyH.cons rfl (fun K hK => ?_) AllReadyH.nil
          go_simp
          go_wp2_with (go_at_call 9; refine (unhide HIH s.r.ba s.r.bc s.bs Wd ((unhide HXA).2.2.1.below (unhide HRd).bel) (unhide HXA).1.fitB).mono ?_; rintro e V1 ⟨ba1, bc1, M1, rfl, hr1, ha1, hn1, ht1, hb1⟩)
          have HR1 := hide ((unhide HRd).below hb1)
          have HF1 := hide (And.intro hr1 (And.intro (ha1.mono (fun b hb => Nat.le_trans hws hb)) (And.intro hn1 ht1)))
          have hws1 : W0.heap.size + 2 ≤ V1.heap.size := Nat.le_trans hws hb1.size
          refine hK.out _ _ (unhide HR1).src (fun hS1 => ?_)
          clear hK K hS hr1 ha1 hn1 ht1 hb1 HRd
          refine wpAnyH_take (i := 6) (v := .pointer (some ⟨W0.heap.size + 1, 6, none⟩)) rfl (by kernel_rfl) (by kernel_rfl) (by kernel_rfl) (fun _ _ _ h => h) (Or.inl ⟨by rfl, fun w _ => by go_simp⟩) hS1 ?_
          refine wpAnyH_ready (rs := [5]) (by kernel_rfl) (by simp) ?_
          refine AllReadyH.cons rfl (fun K hK => ?_) AllReadyH.nil
          · go_simp
            go_wp2_with (go_at_call 9; refine (unhide HIH s.r.la s.r.lc s.ls V1 ((unhide HXA).2.2.2.below (unhide HR1).bel) (unhide HXA).1.fitL).mono ?_; rintro e V2 ⟨la1, lc1, M2, rfl, hr2, ha2, hn2, ht2, hb2⟩)
            have HR2 := hide ((unhide HR1).below hb2)
            have HF2 := hide (And.intro hr2 (And.intro (ha2.mono (fun b hb => Nat.le_trans hws1 hb)) (And.intro hn2 ht2)))
            have HF1b := hide ((unhide HF1).1.below hb2)
            refine hK.out _ _ (unhide HR2).src (fun hS2 => ?_)
            clear hK K hS1 hr2 ha2 hn2 ht2 hb2
            have HFIN := hide (st_fin (bc := bc1) (lc := lc1) (unhide HR2) (unhide HXA).1 (unhide HLN) (unhide HF1b) (unhide HF1).2.1 (unhide HF1).2.2.1 (unhide HF1).2.2.2 (unhide HF2).1 (unhide HF2).2.1 (unhide HF2).2.2.1 (unhide HF2).2.2.2)
            have k6 := (unhide HR2).box.c 6 rfl
            have f6 := (unhide HR2).box.f 6
            have HBX6 : Hid (Bx (V2.setCell ⟨W0.heap.size + 1, 6, none⟩ (.slice ba1 M1.length bc1)) (W0.heap.size + 1) 47 #[.int .i64 s.r.op, .int .i64 s.r.pl, .string s.r.nm, .string s.r.of, .int .i64 s.r.num, .slice va N.length vc, .slice ba1 M1.length bc1, .slice s.r.la s.ls.length s.r.lc, .int .u8 (s.r.ty : Int), .int .i64 s.r.rf]) := hide ((unhide HR2).box.set 6 _ rfl)
            have HSX6 := hide ((unhide HR2).src.other ⟨W0.heap.size + 1, 6, none⟩ (.slice ba1 M1.length bc1) (by simp))
            refine wpAnyH_ready (rs := [7]) (by kernel_rfl) (by simp) ?_
            refine AllReadyH.cons rfl (fun K hK => ?_) AllReadyH.nil
            go_simp
            refine hK.out _ _ (unhide HSX6) (fun hS4 => ?_)
            clear hK K hS2 k6 f6
            generalize V2.setCell ⟨W0.heap.size + 1, 6, none⟩ (.slice ba1 M1.length bc1) = V3 at HFIN HBX6 HSX6 hS4 ⊢
            have k7 := (unhide HBX6).c 7 rfl
            have f7 := (unhide HBX6).f 7
            have HSX7 := hide ((unhide HSX6).other ⟨W0.heap.size + 1, 7, none⟩ (.slice la1 M2.length lc1) (by simp))
            refine wpAnyH_ready (rs := [8]) (by kernel_rfl) (by simp) ?_
            refine AllReadyH.cons rfl (fun K hK => ?_) AllReadyH.nil
            go_simp
            refine hK.out _ _ hS4 (fun hS5 => ?_)
            clear hK K hS4
            refine wpAnyH_ready (rs := [9]) (by kernel_rfl) (by simp) ?_
            refine AllReadyH.cons rfl (fun K hK => ?_) AllReadyH.nil
            go_simp
            refine hK.out _ _ (unhide HSX7) (fun hS6 => ?_)
            clear hK K hS5 hS6 k7 f7
            generalize V3.setCell ⟨W0.heap.size + 1, 7, none⟩ (.slice la1 M2.length lc1) = V4 at HFIN ⊢
            refine wpAnyH_done (by kernel_rfl) ?_ _
            go_wp2_with fail
            go_meet
            exact ⟨rfl, ba1, bc1, M1, la1, lc1, M2, HFIN⟩
        case rest =>
          obtain ⟨rfl, ba1, bc1, M1, la1, lc1, M2, HFIN⟩ := hcut
          obtain ⟨V4, HV4⟩ : ∃ q, q = wc := ⟨_, rfl⟩
          subst HV4
          clear HR
          have HVB := hide (unhide HFIN).2.2.2.2
          have HOd : Hid ((V4.alloc (.cells #[.int .i64 s.r.op, .int .i64 s.r.pl, .string s.r.nm, .string s.r.of, .int .i64 s.r.num, .slice va N.length vc, .slice ba1 M1.length bc1, .slice la1 M2.length lc1, .int .u8 (s.r.ty : Int), .int .i64 s.r.rf] 47)).ownsRow w.heap.size 47 10 (.slice va0 M.length vc0) M.length (vals (stN (n + 1)) M)) := hide (rowBelow (unhide HBL).own ((unhide HVB).alloc (unhide HVB).size _))
          have hbase : w.heap.size ≤ V4.heap.size := Nat.le_trans (unhide HBr).size (unhide HVB).size
          have HMk : Hid (M.length + 1 ≤ maxLen ∧ (M.length + 1) * 144 ≤ 140737488355328) := hide (by have := unhide HK; have := unhide HZ; unfold maxLen; omega)
          go_wp2_with (first | (refine wpList_load_rowG (by kernel_rfl) 47 (.tmp 6) rfl (W0.heap.size + 1) rfl 47 #[.int .i64 s.r.op, .int .i64 s.r.pl, .string s.r.nm, .string s.r.of, .int .i64 s.r.num, .slice va N.length vc, .slice ba1 M1.length bc1, .slice la1 M2.length lc1, .int .u8 (s.r.ty : Int), .int .i64 s.r.rf] (0, 0) _ (unhide HFIN).1 Try.underlying47 rfl (by kernel_rfl) ?_) | (at_builtin; refine wpList_append_lies _ rfl _ _ 35 rfl w.heap.size 47 i1 _ 10 144 Try.underlying35 hi1 hy0 hy1 hy2 rfl (by omega) (.slice va0 M.length vc0) M.length (vals (stN (n + 1)) M) rfl (unhide HOd) ⟨V4.heap.size, 0, none⟩ 1 1 (stC (Stm.mk { s.r with ea := va, ec := vc, ba := ba1, bc := bc1, la := la1, lc := lc1 } N M1 M2)) rfl rfl (World.news_of_block (cs := #[.int .i64 s.r.op, .int .i64 s.r.pl, .string s.r.nm, .string s.r.of, .int .i64 s.r.num, .slice va N.length vc, .slice ba1 M1.length bc1, .slice la1 M2.length lc1, .int .u8 (s.r.ty : Int), .int .i64 s.r.rf]) (t := 47) (fr := (0, 0)) (heap_alloc_new V4 _)) (stC_one _) (by omega) (unhide HMk).1 (unhide HMk).2 ?hb1 (V4.heap.size + 1) ?hb2 ?_))
          case hb1 => omega
          intro g3 cap3 w3 hown hgrow hat hlt3
          have HBL2 := hide ((unhide HBL).step (unhide HVB) (unhide HFIN).2.1 (unhide HFIN).2.2.1 (unhide HBr).size hown hgrow hat)
          have HK2 : Hid ((M ++ [(Stm.mk { s.r with ea := va, ec := vc, ba := ba1, bc := bc1, la := la1, lc := lc1 } N M1 M2)]).length = k + 1) := hide (by rw [List.length_append, unhide HK]; rfl)
          have HC2 : Hid (∀ (i : Nat) a b, T[i]? = some a → (M ++ [(Stm.mk { s.r with ea := va, ec := vc, ba := ba1, bc := bc1, la := la1, lc := lc1 } N M1 M2)])[i]? = some b → sameS (n + 1) a b) := hide (fun i a b ha hb => by
            by_cases e : i < M.length
            · rw [List.getElem?_append_left e] at hb
              exact unhide HC i a b ha hb
            · rw [List.getElem?_append_right (by omega)] at hb
              have e2 : i - M.length = 0 := by
                have := (List.getElem?_eq_some_iff.1 hb).1
                simp at this
                omega
              rw [e2] at hb
              simp at hb
              subst hb
              have e3 : i = k := by have := unhide HK; omega
              subst e3
              rw [unhide HX] at ha
              injection ha with ha
              subst ha
              exact (unhide HFIN).2.2.2.1)
          have HB2 : Hid (Below w.heap.size w w3) := hide (by
            have b1 := (unhide HBr).trans (((unhide HVB).alloc (unhide HVB).size (.cells #[.int .i64 s.r.op, .int .i64 s.r.pl, .string s.r.nm, .string s.r.of, .int .i64 s.r.num, .slice va N.length vc, .slice ba1 M1.length bc1, .slice la1 M2.length lc1, .int .u8 (s.r.ty : Int), .int .i64 s.r.rf] 47)).mono (unhide HBr).size)
            exact b1.grown hgrow b1.size (fun q e => (World.ownsRow.lt (unhide HBL).own q e).1))
          clear hown hgrow hat hlt3
          go_wp2
          go_roundw
          case rel => exact ⟨k + 1, _, by omega, by go_num, HK2, HBL2, HC2, HB2⟩
          case measure => simp [intOf]; omega
theorem Stmts_any : ∀ (n : Nat) (ao : Option Addr) (cap : Nat) (T : List Stm) (w : World), RowAt (stN n) w ao T → T.length * 144 ≤ 140737488351232 → Calls Try.prog 9 #[.slice ao T.length cap] w fun e w' => ∃ va vc M, e = .returned (.slice va (M : List Stm).length vc) ∧ RowAt (stN n) w' va M ∧ RowAll (stN n) (fun b => w.heap.size ≤ b) va M ∧ (va = none → M = []) ∧ Two (sameS n) T M ∧ Below w.heap.size w w'
  | 0, ao, cap, T, w, h1, h2 => Stmts_zero ao cap T w h1 h2
  | n + 1, ao, cap, T, w, h1, h2 => Stmts_in n (Stmts_any n) ao cap T w h1 h2
end Go.Proofs.Ytjccomjgmejnhaa
