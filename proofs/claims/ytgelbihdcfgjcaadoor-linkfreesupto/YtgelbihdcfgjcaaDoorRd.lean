/-
  What can be read of an argument, to the bottom: integers, texts, slices and structs, each within the row's own reach. No Go in it.
-/
import Derived.Test.YtgelbihdcfgjcaaDoorShell
namespace Go.Proofs.YtgelbihdcfgjcaaDoor
open Go.ChangeShapes Go.WideShapes Go.ChangeAt Go.RowKit
set_option maxRecDepth 20000

/-- These cells can be read as a thing of this type, each part of it within the reach. -/
def Rd (W : World) (t : TypeId) (cs : List Value) : Prop :=
  ∃ (H : Type) (enc : TypeId × Value → H) (fuel : Nat) (x : DataW H × List MemPlace), DataW.trod enc Tryd.prog W 0 (fun _ => true) true fuel t cs = some x ∧ ∀ n ∈ x.1.weights Tryd.prog t, n ≤ 140737488351232

theorem Rd.int {W : World} {t : TypeId} {k : IntKind} {cs : List Value} (h : Rd W t cs) (ht : Tryd.prog.underlying t = some (.int k)) : ∃ n, cs = [.int k n] ∧ (Lit.int k n).wf = true := by
  obtain ⟨H, enc, fuel, x, hx, _⟩ := h
  obtain ⟨n, h1, _, h2⟩ := DataW.trod_int ht hx
  exact ⟨n, h1, h2⟩

theorem Rd.str {W : World} {t : TypeId} {cs : List Value} (h : Rd W t cs) (ht : Tryd.prog.underlying t = some .string) : ∃ s : ByteArray, cs = [.string s] ∧ s.size ≤ 140737488351232 := by
  obtain ⟨H, enc, fuel, x, hx, hw⟩ := h
  obtain ⟨s, h1, rfl, h2⟩ := DataW.trod_string ht hx
  refine ⟨s, h1, ?_⟩
  have := hw s.data.toList.length (by simp [DataW.weights])
  simpa using this

theorem weights_all {H : Type} {P : Program} {e : TypeId} : ∀ {l : List (DataW H)} {d : DataW H}, d ∈ l → ∀ n ∈ d.weights P e, n ∈ DataW.weightsAll P e l
  | a :: l, d, hd, n, hn => by
    simp only [DataW.weightsAll, List.mem_append]
    rcases List.mem_cons.1 hd with rfl | hd
    · exact Or.inl hn
    · exact Or.inr (weights_all hd n hn)

theorem add_addr (a : Addr) (i j : Nat) : (a.add i).add j = a.add (i + j) := by
  unfold Addr.add
  by_cases hi : i = 0 <;> by_cases hj : j = 0 <;> simp [hi, hj, Nat.add_assoc]

theorem Rd.slice {W : World} {t e : TypeId} {cs : List Value} (h : Rd W t cs) (ht : Tryd.prog.underlying t = some (.slice e)) :
    cs = [.slice none 0 0] ∨ ∃ a len cap, cs = [.slice (some a) len cap] ∧ len ≤ cap ∧ cap * Tryd.prog.bytesOf e ≤ 140737488351232 ∧
      ∀ i, i < len → ∃ ce : List Value, ce.length = Tryd.prog.cellsOf e ∧ (∀ j, j < Tryd.prog.cellsOf e → W.cell? (a.add (i * Tryd.prog.cellsOf e + j)) = ce[j]?) ∧ Rd W e ce := by
  obtain ⟨H, enc, fuel, x, hx, hw⟩ := h
  rcases DataW.trod_slice ht hx with ⟨h0, _⟩ | ⟨a, len, cap, elems, rest, n, _, h1, rfl, _, hl, _, hel, helem, hsp, _⟩
  · exact Or.inl h0
  · obtain ⟨hr, _⟩ := hsp rfl
    refine Or.inr ⟨a, len, cap, h1, hl, ?_, fun i hi => ?_⟩
    · have := hw ((elems.length + rest.length) * Tryd.prog.bytesOf e) (by simp [DataW.weights, ht])
      rw [hel, hr, show len + (cap - len) = cap from by omega] at this
      exact this
    · have hi' : i < elems.length := by omega
      have := helem i hi
      rw [List.getElem?_eq_getElem hi', Option.bind_eq_some_iff] at this
      obtain ⟨ce, hc, hr⟩ := this
      obtain ⟨hb, hn, hcell⟩ := World.cells?_some hc
      refine ⟨ce, hn, fun j hj => ?_, H, enc, n, _, hr, fun m hm => hw m ?_⟩
      · have := hcell j hj
        rw [add_addr] at this
        exact this
      · simp only [DataW.weights, ht, List.mem_cons, List.mem_append]
        exact Or.inr (Or.inl (weights_all (List.mem_map.2 ⟨_, List.getElem_mem hi', rfl⟩) m hm))

theorem weights_each {H : Type} {P : Program} {ts : List TypeId} {ds : List (DataW H)} {j : Nat} {t : TypeId} {d : DataW H} (ht : ts[j]? = some t) (hd : ds[j]? = some d) : ∀ n ∈ d.weights P t, n ∈ DataW.weightsEach P ts ds :=
  DataW.weights_mem_each ht hd

theorem Rd.struct {W : World} {t : TypeId} {fs : Array Field} {cs : List Value} (h : Rd W t cs) (ht : Tryd.prog.underlying t = some (.struct fs)) (i : Nat) (f : Field) (hf : fs[i]? = some f) :
    Rd W f.type ((cs.drop f.offset).take (Tryd.prog.cellsOf f.type)) := by
  obtain ⟨H, enc, fuel, x, hx, hw⟩ := h
  obtain ⟨xs, n, _, rfl, _, hl, hfs⟩ := DataW.trod_struct ht hx
  have hi : i < xs.length := by rw [hl]; exact (Array.getElem?_eq_some_iff.1 hf).1
  have h1 := hfs i f hf
  rw [List.getElem?_eq_getElem hi] at h1
  refine ⟨H, enc, n, _, h1, fun m hm => hw m ?_⟩
  simp only [DataW.weights, ht]
  refine weights_each (j := i) (t := f.type) (d := xs[i].1) ?_ ?_ m hm
  · rw [List.getElem?_map, Array.getElem?_toList, hf]; rfl
  · rw [List.getElem?_map, List.getElem?_eq_getElem hi]; rfl

theorem choose_below {α : Type} {n : Nat} {p : Nat → α → Prop} (h : ∀ i, i < n → ∃ x, p i x) : ∃ l : List α, l.length = n ∧ ∀ i, i < n → ∃ x, l[i]? = some x ∧ p i x := by
  induction n with
  | zero => exact ⟨[], rfl, fun i hi => absurd hi (Nat.not_lt_zero _)⟩
  | succ n ih =>
    obtain ⟨l, hl, hp⟩ := ih (fun i hi => h i (Nat.lt_succ_of_lt hi))
    obtain ⟨x, hx⟩ := h n (Nat.lt_succ_self n)
    refine ⟨l ++ [x], by simp [hl], fun i hi => ?_⟩
    by_cases e : i < n
    · obtain ⟨y, h1, h2⟩ := hp i e
      exact ⟨y, by rw [List.getElem?_append_left (by omega)]; exact h1, h2⟩
    · have e' : i = n := by omega
      subst e'
      exact ⟨x, by rw [List.getElem?_append_right (by omega), hl, Nat.sub_self]; rfl, hx⟩

/-- An address that leads to a cell bears no spot. -/
theorem plain_addr {W : World} {a : Addr} {v : Value} (h : W.cell? a = some v) : a = ⟨a.block, a.off, none⟩ := by
  have := World.cell?_spot h
  obtain ⟨b, o, s⟩ := a
  simp only at this
  subst this
  rfl

theorem cells8 : Tryd.prog.cellsOf 5 = 1 := by kernel_rfl
theorem bytes8' : Tryd.prog.bytesOf 5 = 1 := by kernel_rfl

theorem Rd.bytes {W : World} {cs : List Value} (h : Rd W 38 cs) : ∃ ao cap l, cs = [.slice ao l.length cap] ∧ BAt W ao l ∧ (ao = none → l = [] ∧ cap = 0) ∧ l.length ≤ 140737488351232 := by
  rcases h.slice Tryd.underlying38 with rfl | ⟨a, len, cap, rfl, hl, hb, hel⟩
  · exact ⟨none, 0, [], rfl, BAt.nil _ _, fun _ => ⟨rfl, rfl⟩, by simp⟩
  · rw [bytes8'] at hb
    have : ∀ i, i < len → ∃ x : UInt8, W.cell? (a.add i) = some (.int .u8 (x.toNat : Int)) := by
      intro i hi
      obtain ⟨ce, h1, h2, h3⟩ := hel i hi
      obtain ⟨n, rfl, hw⟩ := h3.int Tryd.underlying5
      have h4 := h2 0 (by rw [cells8]; omega)
      rw [cells8] at h4
      have hbd := u8_bounds hw
      refine ⟨UInt8.ofNat n.toNat, ?_⟩
      rw [UInt8.toNat_ofNat_of_lt' (by show _ < 256; omega)]
      rw [show i * 1 + 0 = i from by omega] at h4
      rw [h4]
      simp
      omega
    obtain ⟨l, hll, hp⟩ := choose_below this
    subst hll
    refine ⟨some a, cap, l, rfl, ?_, fun h => by simp at h, by omega⟩
    intro i hi
    obtain ⟨x, h1, h2⟩ := hp i hi
    obtain ⟨x0, h10, h20⟩ := hp 0 (by omega)
    have ha : a = ⟨a.block, a.off, none⟩ := by
      have := plain_addr h20
      simpa [Addr.add] using this
    refine ⟨a.block, a.off, by rw [← ha], ?_⟩
    rw [ha, Addr.add_lit] at h2
    rw [h2]
    unfold at8
    rw [List.getD_eq_getElem?_getD, h1]
    rfl
end Go.Proofs.YtgelbihdcfgjcaaDoor
