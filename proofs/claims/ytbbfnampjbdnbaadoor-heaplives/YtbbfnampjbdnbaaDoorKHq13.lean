/-
  A table of one class, made in place; provisolaw14.awake returns true.
  provisolaw14.lived: a heap behind a life; nil, if none can be made.
-/
import Derived.Test.YtbbfnampjbdnbaaDoorKHq12
namespace Go.Proofs.YtbbfnampjbdnbaaDoor
open Go.RowKit
set_option maxRecDepth 20000

def oneT (b : Nat) (ty : Nat) : List Cl := [⟨⟨#[110]⟩, -1, some ⟨b, 0, none⟩, 1, [⟨⟨#[110, 101, 120, 116]⟩, ty⟩]⟩]
theorem one_made5 (b : Nat) : madeD (oneT b 5) = true := by kernel_rfl
theorem one_made16 (b : Nat) : madeD (oneT b 16) = true := by kernel_rfl
theorem one_lds5 (b : Nat) : ldsD (oneT b 5) 0 = [true] := by kernel_rfl
theorem one_lds16 (b : Nat) : ldsD (oneT b 16) 0 = [true] := by kernel_rfl
theorem one_tab (w : World) (ty : Nat) (hty : ty < 256) : TabAt ((w.alloc (.cells #[.string ⟨#[110, 101, 120, 116]⟩, .int .u8 (ty : Int)] 41)).alloc (.cells #[.string ⟨#[110]⟩, .int .i64 (-1), .slice (some ⟨w.heap.size, 0, none⟩) 1 1] 38)) (some ⟨w.heap.size + 1, 0, none⟩) (oneT w.heap.size ty) ∧ Below w.heap.size w ((w.alloc (.cells #[.string ⟨#[110, 101, 120, 116]⟩, .int .u8 (ty : Int)] 41)).alloc (.cells #[.string ⟨#[110]⟩, .int .i64 (-1), .slice (some ⟨w.heap.size, 0, none⟩) 1 1] 38)) := by
  have n1 : Bx (w.alloc (.cells #[.string ⟨#[110, 101, 120, 116]⟩, .int .u8 (ty : Int)] 41)) w.heap.size 41 #[.string ⟨#[110, 101, 120, 116]⟩, .int .u8 (ty : Int)] := heap_alloc_new w _
  have a1 : Below w.heap.size w (w.alloc (.cells #[.string ⟨#[110, 101, 120, 116]⟩, .int .u8 (ty : Int)] 41)) := (Below.refl _ _).alloc (Nat.le_refl _) _
  have s1 : (w.alloc (.cells #[.string ⟨#[110, 101, 120, 116]⟩, .int .u8 (ty : Int)] 41)).heap.size = w.heap.size + 1 := World.size_alloc _ _
  generalize w.alloc (.cells #[.string ⟨#[110, 101, 120, 116]⟩, .int .u8 (ty : Int)] 41) = W1 at n1 a1 s1 ⊢
  have n2 : Bx (W1.alloc (.cells #[.string ⟨#[110]⟩, .int .i64 (-1), .slice (some ⟨w.heap.size, 0, none⟩) 1 1] 38)) W1.heap.size 38 #[.string ⟨#[110]⟩, .int .i64 (-1), .slice (some ⟨w.heap.size, 0, none⟩) 1 1] := heap_alloc_new W1 _
  have a2 : Below W1.heap.size W1 (W1.alloc (.cells #[.string ⟨#[110]⟩, .int .i64 (-1), .slice (some ⟨w.heap.size, 0, none⟩) 1 1] 38)) := (Below.refl _ _).alloc (Nat.le_refl _) _
  have n3 := n1.below a2
  rw [s1] at n2
  refine ⟨fun i x hx => ?_, a1.trans (a2.mono (by omega))⟩
  have hi : i = 0 := by have := (List.getElem?_eq_some_iff.1 hx).1; simp [oneT] at this; omega
  subst hi
  simp [oneT] at hx
  subst hx
  refine ⟨w.heap.size + 1, 0, rfl, n2.c 0 rfl, n2.c 1 rfl, n2.c 2 rfl, fun j f hf => ?_, fun e => (by cases e), Nat.le_refl _, (by show (1 : Nat) * 24 ≤ 140737488351232; omega), (by show (1 : Nat) ≤ 140737488351232; omega), ⟨(by show (-9223372036854775808 : Int) ≤ -1; omega), (by show (-1 : Int) ≤ 9223372036854775807; omega)⟩⟩
  have hj : j = 0 := by have := (List.getElem?_eq_some_iff.1 hf).1; simp at this; omega
  subst hj
  simp at hf
  subst hf
  exact ⟨w.heap.size, 0, rfl, n3.c 0 rfl, n3.c 1 rfl, (by show (4 : Nat) ≤ 140737488351232; omega), hty⟩
/-- A heap of one class, made in place. -/
theorem one_new (w : World) (hW : WordsAt w) (ty : Nat) (hty : ty < 256) (hm : madeD (oneT w.heap.size ty) = true) (hl : ldsD (oneT w.heap.size ty) 0 = [true]) (room : Int) (hr : 0 ≤ room ∧ room ≤ 4096) :
    Calls Tryd.prog 5 #[.slice (some ⟨w.heap.size + 1, 0, none⟩) 1 1, .int .i64 room] ((w.alloc (.cells #[.string ⟨#[110, 101, 120, 116]⟩, .int .u8 (ty : Int)] 41)).alloc (.cells #[.string ⟨#[110]⟩, .int .i64 (-1), .slice (some ⟨w.heap.size, 0, none⟩) 1 1] 38)) fun e w' => ∃ g lv x, e = .returned (.tuple #[.pointer (some ⟨g, 0, none⟩), .int .i64 0]) ∧ HpAt w.heap.size w' g (newH room lv [x]) ∧ x.bs = [true] ∧ Below w.heap.size w w' := by
  have ht := one_tab w ty hty
  have hs := ht.2.size
  refine (New_any (some ⟨w.heap.size + 1, 0, none⟩) 1 (oneT w.heap.size ty) room _ ht.1 (by simp [oneT]) (hW.below ht.2) (by simp [oneT])).mono ?_
  rintro e w' ⟨hN, hB⟩
  rcases hN with ⟨h1, _⟩ | ⟨_, _, _, g, lv, L, rfl, hH, hL, hx⟩
  · rw [hm] at h1
    rcases h1 with h1 | h1 | h1
    · omega
    · omega
    · cases h1
  · match L, hL with
    | [x], _ => exact ⟨g, lv, x, rfl, HpAt.mono hH hs, (hx 0 x rfl).trans hl, ht.2.trans (hB.mono hs)⟩
/-- A call on a heap. -/
structure Ac where
  kd : Int
  a : Int
  b : Int
  c : Int
  ro : Option Addr
  rc : Nat
  R : List Int
structure AcAt (W : World) (b o : Nat) (x : Ac) : Prop where
  c0 : W.cell? ⟨b, o, none⟩ = some (.int .i64 x.kd)
  c1 : W.cell? ⟨b, o + 1, none⟩ = some (.int .i64 x.a)
  c2 : W.cell? ⟨b, o + 2, none⟩ = some (.int .i64 x.b)
  c3 : W.cell? ⟨b, o + 3, none⟩ = some (.int .i64 x.c)
  c4 : W.cell? ⟨b, o + 4, none⟩ = some (.slice x.ro x.R.length x.rc)
  rts : JsAt W x.ro x.R
  fit : x.R.length * 8 ≤ 140737488351232
  hi : x.a < 9223372036854775808
def AcsAt (W : World) (xo : Option Addr) (X : List Ac) : Prop := ∀ i x, X[i]? = some x → ∃ b off, xo = some ⟨b, off, none⟩ ∧ AcAt W b (off + i * 5) x
theorem AcAt.below {W w : World} {b o : Nat} {x : Ac} (h : AcAt W b o x) (hb : Below W.heap.size W w) : AcAt w b o x := by
  have hl : b < W.heap.size := World.block_lt_of_cell? W _ h.c0
  exact ⟨(hb.cell (p := ⟨b, o, none⟩) hl).trans h.c0, (hb.cell (p := ⟨b, o + 1, none⟩) hl).trans h.c1, (hb.cell (p := ⟨b, o + 2, none⟩) hl).trans h.c2, (hb.cell (p := ⟨b, o + 3, none⟩) hl).trans h.c3, (hb.cell (p := ⟨b, o + 4, none⟩) hl).trans h.c4, h.rts.below hb, h.fit, h.hi⟩
theorem AcsAt.below {W w : World} {xo : Option Addr} {X : List Ac} (h : AcsAt W xo X) (hb : Below W.heap.size W w) : AcsAt w xo X := fun i x hx => by
  obtain ⟨b, off, e, h1⟩ := h i x hx
  exact ⟨b, off, e, h1.below hb⟩
/-- A heap that has lived: so many calls. -/
structure Lv (T : List Cl) (room : Int) (h : Hm) (k : Nat) : Prop where
  ok : HmOk h
  last : h.last ≤ (k : Int)
  room : h.room = room
  len : h.L.length = T.length
  lds : ∀ (c : Nat) (x : Ld), h.L[c]? = some x → x.bs = ldsD T c
theorem Lv.more {T : List Cl} {room : Int} {h : Hm} {k : Nat} (H : Lv T room h k) : Lv T room h (k + 1) := ⟨H.ok, by have := H.last; omega, H.room, H.len, H.lds⟩
theorem Lv.add {T : List Cl} {room : Int} {h h' : Hm} {k n : Nat} {c r er : Int} (H : Lv T room h k) (hA : AddIs h c n h' r er) (hc : c = -1 ∨ ∃ j : Nat, c = (j : Int) ∧ ∃ x, h.L[j]? = some x ∧ x.bs.length = n) : Lv T room h' (k + 1) := by
  rcases hA with ⟨_, _, _, rfl⟩ | ⟨hf, _, _, gp, ov, rfl⟩
  · exact H.more
  · exact ⟨H.ok.add gp ov hf hc, by show h.last + 1 ≤ _; have := H.last; omega, H.room, H.len, H.lds⟩
theorem Lv.put {T : List Cl} {room : Int} {h : Hm} {k : Nat} (H : Lv T room h k) (ref i v : Int) : Lv T room (putD h ref i v) (k + 1) := by
  refine ⟨H.ok.putD ref i v, ?_, ?_, ?_, ?_⟩
  all_goals (unfold putD; split)
  all_goals first | exact H.more.last | exact H.room | exact H.len | exact H.lds
theorem Lv.col {T : List Cl} {room : Int} {h h' : Hm} {k : Nat} {R : List Int} {n er : Int} (H : Lv T room h k) (hC : ColIs h R h' n er) : Lv T room h' (k + 1) := by
  rcases hC with ⟨_, _, _, rfl⟩ | ⟨_, _, C, ov, hC, _, rfl⟩
  · exact H.more
  · exact ⟨H.ok.col hC.1 ov, H.more.last, H.room, H.len, H.lds⟩
/-- What is handed back. -/
def LivedIs (T : List Cl) (room : Int) (B : Nat) (W : World) (N : Nat) (e : Ending) : Prop := e = .returned (.pointer none) ∨ (0 ≤ room ∧ room ≤ 4096 ∧ madeD T = true ∧ ∃ g h, e = .returned (.pointer (some ⟨g, 0, none⟩)) ∧ HpAt B W g h ∧ Lv T room h N)
end Go.Proofs.YtbbfnampjbdnbaaDoor
