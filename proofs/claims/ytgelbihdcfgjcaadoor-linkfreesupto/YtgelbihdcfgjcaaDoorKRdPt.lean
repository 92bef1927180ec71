/-
  How a part that came in as an argument is read, with a bound on all that was read. No Go in it.
-/
import Derived.Test.YtgelbihdcfgjcaaDoorKRdMd
import Derived.Test.YtgelbihdcfgjcaaDoorJMD
import Derived.Test.YtgelbihdcfgjcaaDoorBulk
namespace Go.Proofs.YtgelbihdcfgjcaaDoor
open Go.ChangeShapes Go.WideShapes Go.ChangeAt Go.RowKit
set_option maxRecDepth 20000

theorem bulk_mem {H : Type} : ∀ {l : List (DataW H)} {d : DataW H}, d ∈ l → Rows.uptoBulk d ≤ Rows.uptoBulkAll l
  | a :: l, d, hd => by
    rw [Rows.uptoBulkAll]
    rcases List.mem_cons.1 hd with rfl | hd
    · omega
    · have := bulk_mem hd; omega
/-- As Rd, all that was read being of a bulk of at most N. -/
def RdB (N : Nat) (W : World) (t : TypeId) (cs : List Value) : Prop :=
  ∃ (H : Type) (enc : TypeId × Value → H) (fuel : Nat) (x : DataW H × List MemPlace), DataW.trod enc Tryd.prog W 0 (fun _ => true) true fuel t cs = some x ∧ (∀ n ∈ x.1.weights Tryd.prog t, n ≤ 140737488351232) ∧ Rows.uptoBulk x.1 ≤ N
theorem RdB.rd {N : Nat} {W : World} {t : TypeId} {cs : List Value} (h : RdB N W t cs) : Rd W t cs := by
  obtain ⟨H, enc, f, x, h1, h2, _⟩ := h
  exact ⟨H, enc, f, x, h1, h2⟩
theorem RdB.struct {N : Nat} {W : World} {t : TypeId} {fs : Array Field} {cs : List Value} (h : RdB N W t cs) (ht : Tryd.prog.underlying t = some (.struct fs)) (i : Nat) (f : Field) (hf : fs[i]? = some f) :
    RdB N W f.type ((cs.drop f.offset).take (Tryd.prog.cellsOf f.type)) := by
  obtain ⟨H, enc, fuel, x, hx, hw, hb⟩ := h
  obtain ⟨xs, n, _, rfl, _, hl, hfs⟩ := DataW.trod_struct ht hx
  have hi : i < xs.length := by rw [hl]; exact (Array.getElem?_eq_some_iff.1 hf).1
  have h1 := hfs i f hf
  rw [List.getElem?_eq_getElem hi] at h1
  refine ⟨H, enc, n, _, h1, fun m hm => hw m ?_, ?_⟩
  · simp only [DataW.weights, ht]
    refine weights_each (j := i) (t := f.type) (d := xs[i].1) ?_ ?_ m hm
    · rw [List.getElem?_map, Array.getElem?_toList, hf]; rfl
    · rw [List.getElem?_map, List.getElem?_eq_getElem hi]; rfl
  · have := bulk_mem (l := xs.map (·.1)) (d := xs[i].1) (List.mem_map.2 ⟨_, List.getElem_mem hi, rfl⟩)
    rw [Rows.uptoBulk] at hb
    omega
theorem RdB.len {N : Nat} {W : World} {t e : TypeId} {ao : Option Addr} {n cap : Nat} (h : RdB N W t [.slice ao n cap]) (ht : Tryd.prog.underlying t = some (.slice e)) : n ≤ N := by
  obtain ⟨H, enc, fuel, x, hx, hw, hb⟩ := h
  rcases DataW.trod_slice ht hx with ⟨h0, _⟩ | ⟨a, len, cap', elems, rest, m, _, h1, rfl, _, hl, _, hel, helem, hsp, _⟩
  · injection h0 with h0 _
    injection h0 with _ h0 _
    omega
  · injection h1 with h1 _
    injection h1 with _ h1 _
    have := Nat.le_trans (bulk_row _ _) hb
    rw [List.length_map] at this
    omega
theorem Rd.bytesC {W : World} {cs : List Value} {ca : Option Addr} {cc n : Nat} (h : Rd W 38 cs) (e : cs = [.slice ca n cc]) : n ≤ cc := by
  rcases h.slice Tryd.underlying38 with h0 | ⟨a, len, cap, h0, hl, _⟩
  · rw [e] at h0
    injection h0 with h0 _
    injection h0 with _ h0 h1
    omega
  · rw [e] at h0
    injection h0 with h0 _
    injection h0 with _ h0 h1
    omega
theorem Rd.funcC {W : World} {ce : List Value} {x : Fn} (h : Rd W 40 ce) (e : ce = [.string x.nm, .slice x.sg.po x.sg.ps.length x.sg.pc, .int .u8 (x.sg.rt : Int), .int .i64 x.lo, .slice x.ca x.cd.length x.cc]) : x.cd.length ≤ x.cc := by
  subst e
  have h3 := h.struct Tryd.underlying40 3 _ rfl
  have h3 : Rd W 38 (([.string x.nm, .slice x.sg.po x.sg.ps.length x.sg.pc, .int .u8 (x.sg.rt : Int), .int .i64 x.lo, .slice x.ca x.cd.length x.cc] : List Value).drop 4 |>.take (Tryd.prog.cellsOf 38)) := h3
  rw [cellsB8] at h3
  exact h3.bytesC (ca := x.ca) rfl
theorem cellsImR : Tryd.prog.cellsOf 48 = 3 := by kernel_rfl
theorem bytesImR : Tryd.prog.bytesOf 48 = 48 := by kernel_rfl
theorem cellsImS : Tryd.prog.cellsOf 27 = 1 := by kernel_rfl
theorem cellsMdP : Tryd.prog.cellsOf 26 = 4 := by kernel_rfl
theorem Rd.import_ {W : World} {ce : List Value} (h : Rd W 48 ce) (hl : ce.length = 3) : ∃ x : Im, ce = imC x ∧ IOk W x := by
  match ce, hl with
  | [v0, v1, v2], _ =>
    have h0 : Rd W 9 (([v0, v1, v2].drop 0).take (Tryd.prog.cellsOf 9)) := h.struct Tryd.underlying48 0 _ rfl
    have h1 : Rd W 37 (([v0, v1, v2].drop 1).take (Tryd.prog.cellsOf 37)) := h.struct Tryd.underlying48 1 _ rfl
    rw [cellsS] at h0
    rw [cellsSg] at h1
    obtain ⟨s, e0, hs⟩ := h0.str Tryd.underlying9
    obtain ⟨g, e1, hg⟩ := h1.sig (by simp)
    simp at e0 e1
    obtain ⟨e1, e1'⟩ := e1
    subst e0 e1 e1'
    exact ⟨⟨s, g⟩, rfl, hs, hg⟩
theorem Rd.imports {W : World} {cs : List Value} (h : Rd W 27 cs) : ∃ ao cap L, cs = [.slice ao (L : List Im).length cap] ∧ RowAt imN W ao L ∧ L.length * 48 ≤ 140737488351232 := by
  rcases h.slice Tryd.underlying27 with rfl | ⟨a, len, cap, rfl, hl, hb, hel⟩
  · exact ⟨none, 0, [], rfl, RowAt.nil _ _ _, by simp⟩
  · rw [bytesImR] at hb
    have : ∀ i, i < len → ∃ x : Im, W.cell? (a.add (i * 3)) = some (.string x.nm) ∧ ∀ b off, a = ⟨b, off, none⟩ → W.rangeAt b (off + i * 3) (imC x) ∧ IOk W x := by
      intro i hi
      obtain ⟨ce, h1, h2, h3⟩ := hel i hi
      rw [cellsImR] at h1 h2
      obtain ⟨x, rfl, hok⟩ := h3.import_ h1
      refine ⟨x, by simpa [imC] using h2 0 (by omega), fun b off e => ⟨fun j u hu => ?_, hok⟩⟩
      subst e
      have hj := (List.getElem?_eq_some_iff.1 hu).1
      have g0 := h2 j (by rw [show (imC x).length = 3 from rfl] at hj; exact hj)
      rw [Addr.add_lit, ← Nat.add_assoc] at g0
      rw [g0]
      exact hu
    obtain ⟨L, hll, hp⟩ := choose_below this
    subst hll
    refine ⟨some a, cap, L, rfl, fun i x hx => ?_, by omega⟩
    have hi := (List.getElem?_eq_some_iff.1 hx).1
    obtain ⟨y, h1, h2, h3⟩ := hp i hi
    obtain ⟨y0, h10, h20, h30⟩ := hp 0 (by omega)
    rw [hx] at h1
    injection h1 with h1
    subst h1
    have ha : a = ⟨a.block, a.off, none⟩ := by
      have := plain_addr h20
      simpa [Addr.add] using this
    exact ⟨a.block, a.off, by rw [← ha], h3 _ _ ha⟩
theorem RdB.part {N : Nat} {W : World} {ce : List Value} (h : RdB N W 29 ce) (hl : ce.length = 5) : ∃ p : Pt, ce = [.string p.m.nm, .slice p.m.ao p.m.T.length p.m.cap, .slice p.m.fo p.m.F.length p.m.fc, .slice p.m.co p.m.C.length p.m.cc, .slice p.io p.I.length p.ic] ∧ PtOk W p ∧ (∀ x ∈ p.m.F, x.cd.length ≤ x.cc) ∧ p.m.F.length ≤ N := by
  have h0 : RdB N W 26 ((ce.drop 0).take (Tryd.prog.cellsOf 26)) := h.struct Tryd.underlying29 0 _ rfl
  have h1 : RdB N W 27 ((ce.drop 4).take (Tryd.prog.cellsOf 27)) := h.struct Tryd.underlying29 1 _ rfl
  rw [cellsMdP] at h0
  rw [cellsImS] at h1
  obtain ⟨io, ic, I, e1, hI, hzI⟩ := h1.rd.imports
  obtain ⟨m, e0, hM⟩ := h0.rd.module (by simp; omega)
  have hF : RdB N W 23 ((((ce.drop 0).take 4).drop 2).take (Tryd.prog.cellsOf 23)) := h0.struct Tryd.underlying26 2 _ rfl
  rw [cellsFnS, e0] at hF
  have hF : RdB N W 23 [.slice m.fo m.F.length m.fc] := hF
  refine ⟨⟨m, io, ic, I⟩, ?_, ⟨hM, hI, hzI⟩, fun x hx => ?_, hF.len Tryd.underlying23⟩
  · match ce, hl with
    | [a, b, c, d, u], _ =>
      simp at e0 e1
      obtain ⟨rfl, rfl, rfl, rfl⟩ := e0
      subst e1
      rfl
  · obtain ⟨i, hi, e⟩ := List.mem_iff_getElem.1 hx
    have hxi : m.F[i]? = some x := by rw [← e]; exact List.getElem?_eq_getElem hi
    obtain ⟨b, off, eb, hc⟩ := hM.fns i x hxi
    rcases hF.rd.slice Tryd.underlying23 with h0' | ⟨a, len, cap, h0', _, _, hel⟩
    · injection h0' with h0' _
      injection h0' with _ h0' _
      have hi : i < m.F.length := hi
      omega
    · injection h0' with h0' _
      injection h0' with ea el _
      rw [eb] at ea
      injection ea with ea
      subst ea el
      obtain ⟨ce', g1, g2, g3⟩ := hel i hi
      rw [cellsFnR] at g1 g2
      refine g3.funcC (x := x) ?_
      have q0 := g2 0 (by omega)
      have q1 := g2 1 (by omega)
      have q2 := g2 2 (by omega)
      have q3 := g2 3 (by omega)
      have q4 := g2 4 (by omega)
      rw [Addr.add_lit] at q0 q1 q2 q3 q4
      rw [← Nat.add_assoc] at q0 q1 q2 q3 q4
      rw [Nat.add_zero, hc.c0] at q0
      rw [hc.c1] at q1
      rw [hc.c2] at q2
      rw [hc.c3] at q3
      rw [hc.c4] at q4
      match ce', g1 with
      | [v0, v1, v2, v3, v4], _ =>
        simp at q0 q1 q2 q3 q4
        subst q0 q1 q2 q3 q4
        rfl
end Go.Proofs.YtgelbihdcfgjcaaDoor
