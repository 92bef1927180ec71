/-
  How a program that came in as an argument is read: a tree of rows, as deep as the reading goes. No Go in it.
-/
import Derived.Test.YtjccomjgmejnhaaRd
import Derived.Test.YtjccomjgmejnhaaKTr2
namespace Go.Proofs.Ytjccomjgmejnhaa
open Go.ChangeShapes Go.WideShapes Go.ChangeAt Go.RowKit

/-- As Rd, the reading's fuel told. -/
def RdN (f : Nat) (W : World) (t : TypeId) (cs : List Value) : Prop :=
  ∃ (H : Type) (enc : TypeId × Value → H) (x : DataW H × List MemPlace), DataW.trod enc Try.prog W 0 (fun _ => true) true f t cs = some x ∧ ∀ n ∈ x.1.weights Try.prog t, n ≤ 140737488351232
theorem Rd.fuel {W : World} {t : TypeId} {cs : List Value} (h : Rd W t cs) : ∃ f, RdN f W t cs := by
  obtain ⟨H, enc, f, x, h1, h2⟩ := h
  exact ⟨f, H, enc, x, h1, h2⟩
theorem RdN.rd {f : Nat} {W : World} {t : TypeId} {cs : List Value} (h : RdN f W t cs) : Rd W t cs := by
  obtain ⟨H, enc, x, h1, h2⟩ := h
  exact ⟨H, enc, f, x, h1, h2⟩
theorem RdN.slice {f : Nat} {W : World} {t e : TypeId} {cs : List Value} (h : RdN f W t cs) (ht : Try.prog.underlying t = some (.slice e)) :
    cs = [.slice none 0 0] ∨ ∃ a len cap m, f = m + 1 ∧ cs = [.slice (some a) len cap] ∧ len ≤ cap ∧ cap * Try.prog.bytesOf e ≤ 140737488351232 ∧
      ∀ i, i < len → ∃ ce : List Value, ce.length = Try.prog.cellsOf e ∧ (∀ j, j < Try.prog.cellsOf e → W.cell? (a.add (i * Try.prog.cellsOf e + j)) = ce[j]?) ∧ RdN m W e ce := by
  obtain ⟨H, enc, x, hx, hw⟩ := h
  rcases DataW.trod_slice ht hx with ⟨h0, _⟩ | ⟨a, len, cap, elems, rest, n, hf, h1, rfl, _, hl, _, hel, helem, hsp, _⟩
  · exact Or.inl h0
  · obtain ⟨hr, _⟩ := hsp rfl
    refine Or.inr ⟨a, len, cap, n, hf, h1, hl, ?_, fun i hi => ?_⟩
    · have := hw ((elems.length + rest.length) * Try.prog.bytesOf e) (by simp [DataW.weights, ht])
      rw [hel, hr, show len + (cap - len) = cap from by omega] at this
      exact this
    · have hi' : i < elems.length := by omega
      have := helem i hi
      rw [List.getElem?_eq_getElem hi', Option.bind_eq_some_iff] at this
      obtain ⟨ce, hc, hr⟩ := this
      obtain ⟨hb, hn, hcell⟩ := World.cells?_some hc
      refine ⟨ce, hn, fun j hj => ?_, H, enc, _, hr, fun m hm => hw m ?_⟩
      · have := hcell j hj
        rw [add_addr] at this
        exact this
      · simp only [DataW.weights, ht, List.mem_cons, List.mem_append]
        exact Or.inr (Or.inl (weights_all (List.mem_map.2 ⟨_, List.getElem_mem hi', rfl⟩) m hm))
theorem RdN.struct {f : Nat} {W : World} {t : TypeId} {fs : Array Field} {cs : List Value} (h : RdN f W t cs) (ht : Try.prog.underlying t = some (.struct fs)) :
    ∃ m, f = m + 1 ∧ ∀ (i : Nat) (fd : Field), fs[i]? = some fd → RdN m W fd.type ((cs.drop fd.offset).take (Try.prog.cellsOf fd.type)) := by
  obtain ⟨H, enc, x, hx, hw⟩ := h
  obtain ⟨xs, n, hfu, rfl, _, hl, hfs⟩ := DataW.trod_struct ht hx
  refine ⟨n, hfu, fun i fd hf => ?_⟩
  have hi : i < xs.length := by rw [hl]; exact (Array.getElem?_eq_some_iff.1 hf).1
  have h1 := hfs i fd hf
  rw [List.getElem?_eq_getElem hi] at h1
  refine ⟨H, enc, _, h1, fun m hm => hw m ?_⟩
  simp only [DataW.weights, ht]
  refine weights_each (j := i) (t := fd.type) (d := xs[i].1) ?_ ?_ m hm
  · rw [List.getElem?_map, Array.getElem?_toList, hf]; rfl
  · rw [List.getElem?_map, List.getElem?_eq_getElem hi]; rfl
/-- A row of things, each of which can be read. -/
theorem RdN.row {α : Type} (N : Nd α) {f B : Nat} {W : World} {t e : TypeId} {cs : List Value} (h : RdN f W t cs) (ht : Try.prog.underlying t = some (.slice e)) (hc : Try.prog.cellsOf e = N.s) (hB : Try.prog.bytesOf e = B)
    (hel : ∀ m, m < f → ∀ ce : List Value, ce.length = N.s → RdN m W e ce → ∃ x, ce = N.cells x ∧ N.ok W x) :
    ∃ ao cap, ∃ L : List α, cs = [.slice ao L.length cap] ∧ RowAt N W ao L ∧ (ao = none → L = []) ∧ L.length * B ≤ 140737488351232 := by
  rcases h.slice ht with rfl | ⟨a, len, cap, m, hf, rfl, hl, hb, hrow⟩
  · exact ⟨none, 0, [], rfl, RowAt.nil _ _ _, fun _ => rfl, by simp⟩
  · rw [hB] at hb
    rw [hc] at hrow
    have hpos := N.pos
    have : ∀ i, i < len → ∃ x : α, (∃ u, W.cell? (a.add (i * N.s)) = some u) ∧ ∀ b off, a = ⟨b, off, none⟩ → W.rangeAt b (off + i * N.s) (N.cells x) ∧ N.ok W x := by
      intro i hi
      obtain ⟨ce, h1, h2, h3⟩ := hrow i hi
      obtain ⟨x, rfl, hok⟩ := hel m (by omega) ce h1 h3
      refine ⟨x, ⟨_, (h2 0 hpos).trans (List.getElem?_eq_getElem (by omega))⟩, fun b off e => ⟨fun j v hv => ?_, hok⟩⟩
      have hj := (List.getElem?_eq_some_iff.1 hv).1
      rw [N.len] at hj
      have := h2 j hj
      rw [e, Addr.add_lit] at this
      rw [← hv, ← this, Nat.add_assoc]
    obtain ⟨L, hll, hp⟩ := choose_below this
    subst hll
    refine ⟨some a, cap, L, rfl, fun i x hx => ?_, fun e => (by cases e), Nat.le_trans (Nat.mul_le_mul_right _ hl) hb⟩
    have hi := (List.getElem?_eq_some_iff.1 hx).1
    obtain ⟨y, h1, h2, h3⟩ := hp i hi
    obtain ⟨y0, h10, ⟨u, h20⟩, h30⟩ := hp 0 (by omega)
    rw [hx] at h1
    injection h1 with h1
    subst h1
    have ha : a = ⟨a.block, a.off, none⟩ := by
      have := plain_addr h20
      simpa [Addr.add] using this
    exact ⟨a.block, a.off, by rw [← ha], (h3 _ _ ha).1, (h3 _ _ ha).2⟩
theorem RdN.u8 {f : Nat} {W : World} {t : TypeId} {cs : List Value} (h : RdN f W t cs) (ht : Try.prog.underlying t = some (.int .u8)) : ∃ k : Nat, cs = [.int .u8 (k : Int)] ∧ k < 256 := by
  obtain ⟨n, h1, h2⟩ := h.rd.int ht
  have hbd := u8_bounds h2
  refine ⟨n.toNat, ?_, by omega⟩
  rw [h1, show ((n.toNat : Nat) : Int) = n by omega]
/-! ### Depth makes no odds -/
theorem exN_mono : ∀ {n m : Nat}, n ≤ m → ∀ {W : World} {x : Ex}, (exN n).ok W x → (exN m).ok W x
  | 0, _, _, _, _, h => (exN_no h).elim
  | n + 1, m + 1, hnm, W, x, h => ⟨h.1, fun i y hy => by
      obtain ⟨b, off, e, h1, h2⟩ := h.2 i y hy
      exact ⟨b, off, e, h1, exN_mono (Nat.le_of_succ_le_succ hnm) h2⟩⟩
theorem stN_mono : ∀ {n m : Nat}, n ≤ m → ∀ {W : World} {x : Stm}, (stN n).ok W x → (stN m).ok W x
  | 0, _, _, _, _, h => (show False from h).elim
  | n + 1, m + 1, hnm, W, x, h => by
      have hnm' := Nat.le_of_succ_le_succ hnm
      refine ⟨h.1, fun i y hy => ?_, fun i y hy => ?_, fun i y hy => ?_⟩
      · obtain ⟨b, off, e, h1, h2⟩ := h.2.1 i y hy
        exact ⟨b, off, e, h1, exN_mono hnm' h2⟩
      · obtain ⟨b, off, e, h1, h2⟩ := h.2.2.1 i y hy
        exact ⟨b, off, e, h1, stN_mono hnm' h2⟩
      · obtain ⟨b, off, e, h1, h2⟩ := h.2.2.2 i y hy
        exact ⟨b, off, e, h1, stN_mono hnm' h2⟩
theorem fuN_mono {n m : Nat} (hnm : n ≤ m) {W : World} {x : Fu} (h : (fuN n).ok W x) : (fuN m).ok W x := ⟨h.1, h.2.1, fun i y hy => by
  obtain ⟨b, off, e, h1, h2⟩ := h.2.2 i y hy
  exact ⟨b, off, e, h1, stN_mono hnm h2⟩⟩
theorem PgOk.mono {n m : Nat} (hnm : n ≤ m) {W : World} {x : Pg} (h : PgOk n W x) : PgOk m W x := ⟨h.recs, fun i y hy => by
  obtain ⟨b, off, e, h1, h2⟩ := h.funs i y hy
  exact ⟨b, off, e, h1, fuN_mono hnm h2⟩, h.nilR, h.nilU, h.fitR, h.fitU⟩
/-! ### The kinds -/
theorem cellsI_ : Try.prog.cellsOf 3 = 1 := by kernel_rfl
theorem cellsS_ : Try.prog.cellsOf 9 = 1 := by kernel_rfl
theorem cellsT_ : Try.prog.cellsOf 32 = 1 := by kernel_rfl
theorem cellsXs_ : Try.prog.cellsOf 45 = 1 := by kernel_rfl
theorem cellsSs_ : Try.prog.cellsOf 35 = 1 := by kernel_rfl
theorem cellsPs_ : Try.prog.cellsOf 28 = 1 := by kernel_rfl
theorem cellsRs_ : Try.prog.cellsOf 22 = 1 := by kernel_rfl
theorem cellsFs_ : Try.prog.cellsOf 23 = 1 := by kernel_rfl
theorem cellsXp_ : Try.prog.cellsOf 49 = 8 := by kernel_rfl
theorem bytesXp_ : Try.prog.bytesOf 49 = 88 := by kernel_rfl
theorem cellsSt_ : Try.prog.cellsOf 47 = 10 := by kernel_rfl
theorem bytesSt_ : Try.prog.bytesOf 47 = 144 := by kernel_rfl
theorem cellsPm_ : Try.prog.cellsOf 34 = 4 := by kernel_rfl
theorem bytesPm_ : Try.prog.bytesOf 34 = 48 := by kernel_rfl
theorem cellsRc_ : Try.prog.cellsOf 30 = 4 := by kernel_rfl
theorem bytesRc_ : Try.prog.bytesOf 30 = 64 := by kernel_rfl
theorem cellsFu_ : Try.prog.cellsOf 37 = 7 := by kernel_rfl
theorem bytesFu_ : Try.prog.bytesOf 37 = 104 := by kernel_rfl
theorem RdN.pm {f : Nat} {W : World} {ce : List Value} (h : RdN f W 34 ce) (hl : ce.length = 4) : ∃ x : Pm, ce = pmC x ∧ pmN.ok W x := by
  obtain ⟨m, rfl, hs⟩ := h.struct Try.underlying34
  match ce, hl with
  | [v0, v1, v2, v3], _ =>
    have h0 : RdN m W 3 (([v0, v1, v2, v3].drop 0).take (Try.prog.cellsOf 3)) := hs 0 _ rfl
    rw [cellsI_] at h0
    have h1 : RdN m W 9 (([v0, v1, v2, v3].drop 1).take (Try.prog.cellsOf 9)) := hs 1 _ rfl
    rw [cellsS_] at h1
    have h2 : RdN m W 9 (([v0, v1, v2, v3].drop 2).take (Try.prog.cellsOf 9)) := hs 2 _ rfl
    rw [cellsS_] at h2
    have h3 : RdN m W 32 (([v0, v1, v2, v3].drop 3).take (Try.prog.cellsOf 32)) := hs 3 _ rfl
    rw [cellsT_] at h3
    obtain ⟨pl, e0, _⟩ := h0.rd.int Try.underlying3
    obtain ⟨nm, e1, z1⟩ := h1.rd.str Try.underlying9
    obtain ⟨of, e2, z2⟩ := h2.rd.str Try.underlying9
    obtain ⟨ty, e3, z3⟩ := h3.u8 Try.underlying32
    simp at e0 e1 e2 e3
    subst e0 e1 e2 e3
    exact ⟨⟨pl, nm, of, ty⟩, rfl, ⟨z1, z2, z3⟩⟩
theorem RdN.rcd {f : Nat} {W : World} {ce : List Value} (h : RdN f W 30 ce) (hl : ce.length = 4) : ∃ x : Rcd, ce = rcC x ∧ rcN.ok W x := by
  obtain ⟨m, rfl, hs⟩ := h.struct Try.underlying30
  match ce, hl with
  | [v0, v1, v2, v3], _ =>
    have h0 : RdN m W 3 (([v0, v1, v2, v3].drop 0).take (Try.prog.cellsOf 3)) := hs 0 _ rfl
    rw [cellsI_] at h0
    have h1 : RdN m W 9 (([v0, v1, v2, v3].drop 1).take (Try.prog.cellsOf 9)) := hs 1 _ rfl
    rw [cellsS_] at h1
    have h2 : RdN m W 9 (([v0, v1, v2, v3].drop 2).take (Try.prog.cellsOf 9)) := hs 2 _ rfl
    rw [cellsS_] at h2
    have h3 : RdN m W 28 (([v0, v1, v2, v3].drop 3).take (Try.prog.cellsOf 28)) := hs 3 _ rfl
    rw [cellsPs_] at h3
    obtain ⟨pl, e0, _⟩ := h0.rd.int Try.underlying3
    obtain ⟨nm, e1, z1⟩ := h1.rd.str Try.underlying9
    obtain ⟨pa, e2, z2⟩ := h2.rd.str Try.underlying9
    obtain ⟨fa, fc, fs, e3, hR, hN, hF⟩ := (h3.row pmN Try.underlying28 cellsPm_ bytesPm_ (fun k _ ce hl hr => hr.pm hl))
    simp at e0 e1 e2 e3
    subst e0 e1 e2 e3
    exact ⟨⟨pl, nm, pa, fa, fc, fs⟩, rfl, ⟨hN, hF, z1, z2⟩, hR⟩
theorem RdN.ex : ∀ {f : Nat} {W : World} {ce : List Value}, RdN f W 49 ce → ce.length = 8 → ∃ x : Ex, ce = exC x ∧ (exN f).ok W x := by
  intro f
  induction f using Nat.strongRecOn with
  | _ f IH =>
  intro W ce h hl
  obtain ⟨m, rfl, hs⟩ := h.struct Try.underlying49
  match ce, hl with
  | [v0, v1, v2, v3, v4, v5, v6, v7], _ =>
    have h0 : RdN m W 3 (([v0, v1, v2, v3, v4, v5, v6, v7].drop 0).take (Try.prog.cellsOf 3)) := hs 0 _ rfl
    rw [cellsI_] at h0
    have h1 : RdN m W 3 (([v0, v1, v2, v3, v4, v5, v6, v7].drop 1).take (Try.prog.cellsOf 3)) := hs 1 _ rfl
    rw [cellsI_] at h1
    have h2 : RdN m W 9 (([v0, v1, v2, v3, v4, v5, v6, v7].drop 2).take (Try.prog.cellsOf 9)) := hs 2 _ rfl
    rw [cellsS_] at h2
    have h3 : RdN m W 3 (([v0, v1, v2, v3, v4, v5, v6, v7].drop 3).take (Try.prog.cellsOf 3)) := hs 3 _ rfl
    rw [cellsI_] at h3
    have h4 : RdN m W 45 (([v0, v1, v2, v3, v4, v5, v6, v7].drop 4).take (Try.prog.cellsOf 45)) := hs 4 _ rfl
    rw [cellsXs_] at h4
    have h5 : RdN m W 32 (([v0, v1, v2, v3, v4, v5, v6, v7].drop 5).take (Try.prog.cellsOf 32)) := hs 5 _ rfl
    rw [cellsT_] at h5
    have h6 : RdN m W 3 (([v0, v1, v2, v3, v4, v5, v6, v7].drop 6).take (Try.prog.cellsOf 3)) := hs 6 _ rfl
    rw [cellsI_] at h6
    have h7 : RdN m W 3 (([v0, v1, v2, v3, v4, v5, v6, v7].drop 7).take (Try.prog.cellsOf 3)) := hs 7 _ rfl
    rw [cellsI_] at h7
    obtain ⟨op, e0, _⟩ := h0.rd.int Try.underlying3
    obtain ⟨pl, e1, _⟩ := h1.rd.int Try.underlying3
    obtain ⟨nm, e2, z2⟩ := h2.rd.str Try.underlying9
    obtain ⟨num, e3, _⟩ := h3.rd.int Try.underlying3
    obtain ⟨ka, kc, ks, e4, hR, hN, hF⟩ := h4.row (exN m) Try.underlying45 cellsXp_ bytesXp_ (fun k hk ce hl hr => by
      obtain ⟨x, e, hx⟩ := IH k (by omega) hr hl
      exact ⟨x, e, exN_mono (Nat.le_of_lt hk) hx⟩)
    obtain ⟨ty, e5, z5⟩ := h5.u8 Try.underlying32
    obtain ⟨cl, e6, _⟩ := h6.rd.int Try.underlying3
    obtain ⟨rf, e7, _⟩ := h7.rd.int Try.underlying3
    simp at e0 e1 e2 e3 e4 e5 e6 e7
    subst e0 e1 e2 e3 e4 e5 e6 e7
    exact ⟨.mk ⟨op, pl, nm, num, ka, kc, ty, cl, rf⟩ ks, rfl, ⟨hN, hF, z2⟩, hR⟩
theorem RdN.stm : ∀ {f : Nat} {W : World} {ce : List Value}, RdN f W 47 ce → ce.length = 10 → ∃ x : Stm, ce = stC x ∧ (stN f).ok W x := by
  intro f
  induction f using Nat.strongRecOn with
  | _ f IH =>
  intro W ce h hl
  obtain ⟨m, rfl, hs⟩ := h.struct Try.underlying47
  match ce, hl with
  | [v0, v1, v2, v3, v4, v5, v6, v7, v8, v9], _ =>
    have h0 : RdN m W 3 (([v0, v1, v2, v3, v4, v5, v6, v7, v8, v9].drop 0).take (Try.prog.cellsOf 3)) := hs 0 _ rfl
    rw [cellsI_] at h0
    have h1 : RdN m W 3 (([v0, v1, v2, v3, v4, v5, v6, v7, v8, v9].drop 1).take (Try.prog.cellsOf 3)) := hs 1 _ rfl
    rw [cellsI_] at h1
    have h2 : RdN m W 9 (([v0, v1, v2, v3, v4, v5, v6, v7, v8, v9].drop 2).take (Try.prog.cellsOf 9)) := hs 2 _ rfl
    rw [cellsS_] at h2
    have h3 : RdN m W 9 (([v0, v1, v2, v3, v4, v5, v6, v7, v8, v9].drop 3).take (Try.prog.cellsOf 9)) := hs 3 _ rfl
    rw [cellsS_] at h3
    have h4 : RdN m W 3 (([v0, v1, v2, v3, v4, v5, v6, v7, v8, v9].drop 4).take (Try.prog.cellsOf 3)) := hs 4 _ rfl
    rw [cellsI_] at h4
    have h5 : RdN m W 45 (([v0, v1, v2, v3, v4, v5, v6, v7, v8, v9].drop 5).take (Try.prog.cellsOf 45)) := hs 5 _ rfl
    rw [cellsXs_] at h5
    have h6 : RdN m W 35 (([v0, v1, v2, v3, v4, v5, v6, v7, v8, v9].drop 6).take (Try.prog.cellsOf 35)) := hs 6 _ rfl
    rw [cellsSs_] at h6
    have h7 : RdN m W 35 (([v0, v1, v2, v3, v4, v5, v6, v7, v8, v9].drop 7).take (Try.prog.cellsOf 35)) := hs 7 _ rfl
    rw [cellsSs_] at h7
    have h8 : RdN m W 32 (([v0, v1, v2, v3, v4, v5, v6, v7, v8, v9].drop 8).take (Try.prog.cellsOf 32)) := hs 8 _ rfl
    rw [cellsT_] at h8
    have h9 : RdN m W 3 (([v0, v1, v2, v3, v4, v5, v6, v7, v8, v9].drop 9).take (Try.prog.cellsOf 3)) := hs 9 _ rfl
    rw [cellsI_] at h9
    obtain ⟨op, e0, _⟩ := h0.rd.int Try.underlying3
    obtain ⟨pl, e1, _⟩ := h1.rd.int Try.underlying3
    obtain ⟨nm, e2, z2⟩ := h2.rd.str Try.underlying9
    obtain ⟨of, e3, z3⟩ := h3.rd.str Try.underlying9
    obtain ⟨num, e4, _⟩ := h4.rd.int Try.underlying3
    obtain ⟨ea, ec, es, e5, hR5, hN5, hF5⟩ := h5.row (exN m) Try.underlying45 cellsXp_ bytesXp_ (fun k hk ce hl hr => by
      obtain ⟨x, e, hx⟩ := hr.ex hl
      exact ⟨x, e, exN_mono (Nat.le_of_lt hk) hx⟩)
    obtain ⟨ba, bc, bs, e6, hR6, hN6, hF6⟩ := h6.row (stN m) Try.underlying35 cellsSt_ bytesSt_ (fun k hk ce hl hr => by
      obtain ⟨x, e, hx⟩ := IH k (by omega) hr hl
      exact ⟨x, e, stN_mono (Nat.le_of_lt hk) hx⟩)
    obtain ⟨la, lc, ls, e7, hR7, hN7, hF7⟩ := h7.row (stN m) Try.underlying35 cellsSt_ bytesSt_ (fun k hk ce hl hr => by
      obtain ⟨x, e, hx⟩ := IH k (by omega) hr hl
      exact ⟨x, e, stN_mono (Nat.le_of_lt hk) hx⟩)
    obtain ⟨ty, e8, z8⟩ := h8.u8 Try.underlying32
    obtain ⟨rf, e9, _⟩ := h9.rd.int Try.underlying3
    simp at e0 e1 e2 e3 e4 e5 e6 e7 e8 e9
    subst e0 e1 e2 e3 e4 e5 e6 e7 e8 e9
    exact ⟨.mk ⟨op, pl, nm, of, num, ea, ec, ba, bc, la, lc, ty, rf⟩ es bs ls, rfl, ⟨hN5, hN6, hN7, hF5, hF6, hF7, z2, z3⟩, hR5, hR6, hR7⟩
theorem RdN.fu {f : Nat} {W : World} {ce : List Value} (h : RdN f W 37 ce) (hl : ce.length = 7) : ∃ x : Fu, ce = fuC x ∧ (fuN f).ok W x := by
  obtain ⟨m, rfl, hs⟩ := h.struct Try.underlying37
  match ce, hl with
  | [v0, v1, v2, v3, v4, v5, v6], _ =>
    have h0 : RdN m W 3 (([v0, v1, v2, v3, v4, v5, v6].drop 0).take (Try.prog.cellsOf 3)) := hs 0 _ rfl
    rw [cellsI_] at h0
    have h1 : RdN m W 9 (([v0, v1, v2, v3, v4, v5, v6].drop 1).take (Try.prog.cellsOf 9)) := hs 1 _ rfl
    rw [cellsS_] at h1
    have h2 : RdN m W 9 (([v0, v1, v2, v3, v4, v5, v6].drop 2).take (Try.prog.cellsOf 9)) := hs 2 _ rfl
    rw [cellsS_] at h2
    have h3 : RdN m W 28 (([v0, v1, v2, v3, v4, v5, v6].drop 3).take (Try.prog.cellsOf 28)) := hs 3 _ rfl
    rw [cellsPs_] at h3
    have h4 : RdN m W 35 (([v0, v1, v2, v3, v4, v5, v6].drop 4).take (Try.prog.cellsOf 35)) := hs 4 _ rfl
    rw [cellsSs_] at h4
    have h5 : RdN m W 32 (([v0, v1, v2, v3, v4, v5, v6].drop 5).take (Try.prog.cellsOf 32)) := hs 5 _ rfl
    rw [cellsT_] at h5
    have h6 : RdN m W 3 (([v0, v1, v2, v3, v4, v5, v6].drop 6).take (Try.prog.cellsOf 3)) := hs 6 _ rfl
    rw [cellsI_] at h6
    obtain ⟨pl, e0, _⟩ := h0.rd.int Try.underlying3
    obtain ⟨nm, e1, z1⟩ := h1.rd.str Try.underlying9
    obtain ⟨of, e2, z2⟩ := h2.rd.str Try.underlying9
    obtain ⟨pa, pc, ps, e3, hR3, hN3, hF3⟩ := (h3.row pmN Try.underlying28 cellsPm_ bytesPm_ (fun k _ ce hl hr => hr.pm hl))
    obtain ⟨ba, bc, bs, e4, hR4, hN4, hF4⟩ := h4.row (stN (m + 1)) Try.underlying35 cellsSt_ bytesSt_ (fun k hk ce hl hr => by
      obtain ⟨x, e, hx⟩ := hr.stm hl
      exact ⟨x, e, stN_mono (by omega) hx⟩)
    obtain ⟨ty, e5, z5⟩ := h5.u8 Try.underlying32
    obtain ⟨lo, e6, _⟩ := h6.rd.int Try.underlying3
    simp at e0 e1 e2 e3 e4 e5 e6
    subst e0 e1 e2 e3 e4 e5 e6
    exact ⟨⟨pl, nm, of, pa, pc, ps, ba, bc, bs, ty, lo⟩, rfl, ⟨hN3, hN4, hF3, hF4, z1, z2⟩, hR3, hR4⟩
theorem Rd.program {W : World} {ce : List Value} (h : Rd W 25 ce) (hl : ce.length = 2) : ∃ x : Pg, ce = [.slice x.ra x.R.length x.rc, .slice x.ua x.U.length x.uc] ∧ ∃ n, PgOk n W x := by
  obtain ⟨f, h⟩ := h.fuel
  obtain ⟨m, rfl, hs⟩ := h.struct Try.underlying25
  match ce, hl with
  | [v0, v1], _ =>
    have h0 : RdN m W 22 (([v0, v1].drop 0).take (Try.prog.cellsOf 22)) := hs 0 _ rfl
    rw [cellsRs_] at h0
    have h1 : RdN m W 23 (([v0, v1].drop 1).take (Try.prog.cellsOf 23)) := hs 1 _ rfl
    rw [cellsFs_] at h1
    obtain ⟨ra, rc, R, e0, hR0, hN0, hF0⟩ := h0.row rcN Try.underlying22 cellsRc_ bytesRc_ (fun k _ ce hl hr => hr.rcd hl)
    obtain ⟨ua, uc, U, e1, hR1, hN1, hF1⟩ := h1.row (fuN m) Try.underlying23 cellsFu_ bytesFu_ (fun k hk ce hl hr => by
      obtain ⟨x, e, hx⟩ := hr.fu hl
      exact ⟨x, e, fuN_mono (Nat.le_of_lt hk) hx⟩)
    simp at e0 e1
    subst e0 e1
    exact ⟨⟨ra, rc, R, ua, uc, U⟩, rfl, m, hR0, hR1, hN0, hN1, hF0, hF1⟩
end Go.Proofs.Ytjccomjgmejnhaa
