/-
  A store in memory ('IsSt'): its image, its entries, and what keeps them. No Go in it.
-/
import Derived.Test.YtkiijdcpfbnacaaGreatDoorSr0
import Derived.Test.YtkiijdcpfbnacaaGreatDoorWriter
import Derived.Deep.MidRow
namespace Go.Proofs.YtkiijdcpfbnacaaGreatDoor
open Go.RowKit
set_option maxRecDepth 20000

/-- An entry: a name, and from where to where in the image. -/
structure Ke where
  nm : ByteArray
  fr : Nat
  to : Nat
def keC (e : Ke) : List Value := [.string e.nm, .int .i64 (e.fr : Int), .int .i64 (e.to : Int)]
def keV (K : List Ke) : List Value := K.flatMap keC
theorem keV_len (K : List Ke) : (keV K).length = K.length * 3 := by
  unfold keV
  induction K with
  | nil => simp
  | cons x l ih => rw [List.flatMap_cons, List.length_append, ih, List.length_cons]; simp [keC]; omega
theorem keV_app (A B : List Ke) : keV (A ++ B) = keV A ++ keV B := by unfold keV; simp
theorem keV_get : ∀ {K : List Ke} {i : Nat} {x : Ke}, K[i]? = some x → ∀ j, j < 3 → (keV K)[i * 3 + j]? = (keC x)[j]?
  | [], i, x, h, _, _ => by simp at h
  | g :: l, 0, x, h, j, hj => by
    simp at h
    subst h
    unfold keV
    rw [List.flatMap_cons, List.getElem?_append_left (by simp [keC]; omega)]
    simp
  | g :: l, i + 1, x, h, j, hj => by
    have h' : l[i]? = some x := by simpa using h
    have h1 := keV_get h' j hj
    unfold keV at h1 ⊢
    rw [List.flatMap_cons, List.getElem?_append_right (by simp [keC]; omega), ← h1]
    congr 1
    simp [keC]; omega
theorem keV_take : ∀ (K : List Ke) (i : Nat), keV (K.take i) = (keV K).take (i * 3)
  | [], i => by simp [keV]
  | x :: l, 0 => by simp [keV]
  | x :: l, i + 1 => by
    have ih := keV_take l i
    unfold keV at ih ⊢
    rw [List.take_succ_cons, List.flatMap_cons, List.flatMap_cons, ih, show (i + 1) * 3 = i * 3 + 1 + 1 + 1 by omega]
    simp only [keC, List.cons_append, List.nil_append, List.take_succ_cons]
theorem keV_drop : ∀ (K : List Ke) (i : Nat), keV (K.drop i) = (keV K).drop (i * 3)
  | [], i => by simp [keV]
  | x :: l, 0 => by simp [keV]
  | x :: l, i + 1 => by
    have ih := keV_drop l i
    unfold keV at ih ⊢
    rw [List.drop_succ_cons, List.flatMap_cons, ih, show (i + 1) * 3 = i * 3 + 1 + 1 + 1 by omega]
    simp only [keC, List.cons_append, List.nil_append, List.drop_succ_cons]
theorem keV_one (K : List Ke) : ∀ v ∈ keV K, v.oneCell' = true := by
  intro v hv
  unfold keV at hv
  obtain ⟨x, _, hx⟩ := List.mem_flatMap.1 hv
  simp [keC] at hx
  rcases hx with rfl | rfl | rfl <;> simp [Value.oneCell']
def OwnK (w : World) (base : Nat) (v : Value) (K : List Ke) : Prop := w.ownsRow base 242 3 v K.length (keV K)
theorem OwnK.at {w : World} {base : Nat} {v : Value} {K : List Ke} (h : OwnK w base v K) : ∃ ao cap, v = .slice ao K.length cap ∧ (ao = none → K = []) ∧ ∀ i x, K[i]? = some x → ∃ b, ao = some ⟨b, 0, none⟩ ∧ w.cell? ⟨b, i * 3, none⟩ = some (.string x.nm) ∧ w.cell? ⟨b, i * 3 + 1, none⟩ = some (.int .i64 (x.fr : Int)) ∧ w.cell? ⟨b, i * 3 + 2, none⟩ = some (.int .i64 (x.to : Int)) := by
  rcases h.2 with ⟨h1, h2⟩ | ⟨g, cap, cur, rfl, hb, hh, hn, hm, hsz, ht⟩
  · have := List.eq_nil_of_length_eq_zero h2
    subst this
    exact ⟨none, 0, h1, fun _ => rfl, fun i x hx => by simp at hx⟩
  · refine ⟨_, cap, rfl, (fun e => by cases e), fun i x hx => ⟨g, rfl, ?_⟩⟩
    have hi := (List.getElem?_eq_some_iff.1 hx).1
    have q : ∀ j, j < 3 → w.cell? ⟨g, i * 3 + j, none⟩ = (keC x)[j]? := fun j hj => by
      rw [World.ownsRow.cellAt h (i * 3 + j) (by omega), keV_get hx j hj]
    exact ⟨q 0 (by omega), q 1 (by omega), q 2 (by omega)⟩
theorem OwnK.keep {S : Nat → Prop} {w w' : World} {base : Nat} {v : Value} {K : List Ke} (h : OwnK w base v K) (hk : Kept S w w') (hs : ∀ k, v.ownBlock = some k → ¬ S k) : OwnK w' base v K := by
  refine ⟨h.1, ?_⟩
  rcases h.2 with h1 | ⟨g, cap, cur, hv, hbg, hh, r⟩
  · exact Or.inl h1
  · exact Or.inr ⟨g, cap, cur, hv, hbg, by rw [hk.block g (Array.getElem?_eq_some_iff.1 hh).1 (hs g (by rw [hv]; rfl))]; exact hh, r⟩
theorem OwnK.nil (w : World) (base : Nat) : OwnK w base (.slice none 0 0) [] := World.ownsRow_nil _ _ _ _
/-- A store lies in block g: its image is I, its entries are K; its blocks are B or above. -/
structure IsSt (w : World) (B g : Nat) (iv kv : Value) (I : List UInt8) (K : List Ke) : Prop where
  row : w.heap[g]? = some (.cells #[iv, kv, .bool true] 164 (0, 0))
  low : B ≤ g
  img : OwnB w B iv I
  kep : OwnK w B kv K
theorem IsSt.gl {w : World} {B g : Nat} {iv kv : Value} {I : List UInt8} {K : List Ke} (h : IsSt w B g iv kv I K) : g < w.heap.size := (Array.getElem?_eq_some_iff.1 h.row).1
theorem IsSt.c0 {w : World} {B g : Nat} {iv kv : Value} {I : List UInt8} {K : List Ke} (h : IsSt w B g iv kv I K) : w.cell? ⟨g, 0, none⟩ = some iv := by
  rw [cell_of_row _ _ _ _ _ _ h.row]; rfl
theorem IsSt.c1 {w : World} {B g : Nat} {iv kv : Value} {I : List UInt8} {K : List Ke} (h : IsSt w B g iv kv I K) : w.cell? ⟨g, 1, none⟩ = some kv := by
  rw [cell_of_row _ _ _ _ _ _ h.row]; rfl
theorem IsSt.c2 {w : World} {B g : Nat} {iv kv : Value} {I : List UInt8} {K : List Ke} (h : IsSt w B g iv kv I K) : w.cell? ⟨g, 2, none⟩ = some (.bool true) := by
  rw [cell_of_row _ _ _ _ _ _ h.row]; rfl
theorem IsSt.f0 {w : World} {B g : Nat} {iv kv : Value} {I : List UInt8} {K : List Ke} (h : IsSt w B g iv kv I K) : w.frozen? ⟨g, 0, none⟩ = false := frozen_of_row _ _ _ _ _ h.row
theorem IsSt.f1 {w : World} {B g : Nat} {iv kv : Value} {I : List UInt8} {K : List Ke} (h : IsSt w B g iv kv I K) : w.frozen? ⟨g, 1, none⟩ = false := frozen_of_row _ _ _ _ _ h.row
theorem IsSt.keep {S : Nat → Prop} {w w' : World} {B g : Nat} {iv kv : Value} {I : List UInt8} {K : List Ke} (h : IsSt w B g iv kv I K) (hk : Kept S w w') (hg : ¬ S g) (hi : ∀ k, iv.ownBlock = some k → ¬ S k) (hv : ∀ k, kv.ownBlock = some k → ¬ S k) : IsSt w' B g iv kv I K :=
  ⟨by rw [hk.block g h.gl hg]; exact h.row, h.low, h.img.keep hk hi, h.kep.keep hk hv⟩
theorem IsSt.below {w w' : World} {B g : Nat} {iv kv : Value} {I : List UInt8} {K : List Ke} (h : IsSt w B g iv kv I K) (hb : Below w.heap.size w w') : IsSt w' B g iv kv I K :=
  h.keep (Kept.of_below hb (fun _ => False)) (fun h => h) (fun _ _ h => h) (fun _ _ h => h)
/-- Of which types a store's blocks are. -/
theorem IsSt.kty {w : World} {B g : Nat} {iv kv : Value} {I : List UInt8} {K : List Ke} (h : IsSt w B g iv kv I K) : ∀ k, kv.ownBlock = some k → ∃ cur, w.heap[k]? = some (.cells cur 242 (0, 0)) := by
  intro k e
  rcases h.kep.2 with ⟨h1, _⟩ | ⟨g', cap, cur, hv, hbg, hh, r⟩
  · rw [h1] at e; cases e
  · rw [hv] at e
    injection e with e
    subst e
    exact ⟨cur, hh⟩
theorem IsSt.ity {w : World} {B g : Nat} {iv kv : Value} {I : List UInt8} {K : List Ke} (h : IsSt w B g iv kv I K) : ∀ k, iv.ownBlock = some k → ∃ cur, w.heap[k]? = some (.cells cur 5 (0, 0)) := by
  intro k e
  rcases h.img.2 with ⟨h1, _⟩ | ⟨g', cap, cur, hv, hbg, hh, r⟩
  · rw [h1] at e; cases e
  · rw [hv] at e
    injection e with e
    subst e
    exact ⟨cur, hh⟩
/-- The blocks that its entries' changes turn. -/
def ST (g : Nat) (kv : Value) (k : Nat) : Prop := k = g ∨ kv.ownBlock = some k
end Go.Proofs.YtkiijdcpfbnacaaGreatDoor
