/-
  An entry of a certificate as a plain thing: its cells, how they lie in a block, and what '==' tells of two entries. Conditions: a frame has 24 slots.
-/
import Derived.Test.YtednnfmomhallaaFrE
import Derived.Laws.ResultCell
namespace Go.Proofs.Ytednnfmomhallaa
open Go.RowKit

structure En where
  at_ : Int
  dead : Bool
  fr : Fr
def enL (x : En) : List Value := .int .i64 x.at_ :: .bool x.dead :: frL x.fr
def enA (x : En) : Array Value := (enL x).toArray
def enEq (x y : En) : Bool := x.at_ == y.at_ && (x.dead == y.dead && frEq x.fr y.fr)
theorem enEq_iff {x y : En} : enEq x y = true ↔ x = y := by
  cases x; cases y
  simp [enEq, frEq_iff]
theorem enEq_refl (x : En) : enEq x x = true := enEq_iff.2 rfl
theorem enA_size {x : En} (h : FrOk x.fr) : (enA x).size = 28 := by
  have := frA_size h
  simp [frA] at this
  simp [enA, enL, this]
theorem enA_at (x : En) : (enA x)[0]? = some (.int .i64 x.at_) := by simp [enA, enL]
theorem enA_dead (x : En) : (enA x)[1]? = some (.bool x.dead) := by simp [enA, enL]
theorem enA_one (x : En) : (enA x).all (·.oneCell') = true := by
  refine all_oneCell_toArray ?_
  intro v hv
  simp only [enL, frL, slV, List.mem_cons, List.mem_map] at hv
  rcases hv with rfl | rfl | rfl | rfl | ⟨t, _, rfl⟩ <;> rfl
theorem enA_extract (x : En) (h : FrOk x.fr) : (enA x).extract 2 (2 + 26) = frA x.fr := by
  have hl : (frL x.fr).length = 26 := by have := frA_size h; simpa [frA] using this
  unfold enA enL frA
  rw [List.extract_toArray]
  congr 1
  rw [List.extract_eq_take_drop]
  simp only [List.drop_succ_cons, List.drop_zero]
  rw [List.take_of_length_le (by omega)]
theorem sizeEn {x : En} (h : FrOk x.fr) : (Try.prog.info? 42).map (·.size) = some (enA x).size := by
  rw [enA_size h]
  kernel_rfl
theorem sizeEqEn {x y : En} (hx : FrOk x.fr) (hy : FrOk y.fr) : (enA x).size = (enA y).size := by rw [enA_size hx, enA_size hy]

theorem en_struct : Try.prog.underlying 42 = some (.struct (Try.prog.fieldsOf 42)) := by
  have h := Try.underlying42
  unfold Program.fieldsOf
  rw [h]
theorem en_stood : Try.prog.stoodInHeld 42 = false := by kernel_rfl
theorem en_fields : (Try.prog.fieldsOf 42).toList.map (fun f => (f.name, f.type, f.offset)) = [("At", 3, 0), ("Dead", 4, 1), ("Frame", 40, 2)] := by kernel_rfl
theorem en_bool : Try.prog.plainKey 4 = true := by kernel_rfl
theorem fr_cells : Try.prog.cellsOf 40 = 26 := by kernel_rfl
theorem fr_part (w : World) {x : En} (hx : FrOk x.fr) : (part 40 (enA x) 2).run Try.prog w = .ok (.agg (frA x.fr)) w := by
  have ha : (isAgg 40).run Try.prog w = .ok true w := by
    unfold isAgg
    rw [Sem.run_bind, run_underlying Try.underlying40 w]
    simp
  obtain ⟨i, hi⟩ := info_of_underlying Try.underlying40
  have hs : (sizeOf 40).run Try.prog w = .ok 26 w := by rw [run_sizeOf w hi, fr_cells]
  simp only [part, Sem.run_bind, ha, hs, Result.andThen_ok, if_true, Sem.run_pure, enA_extract x hx]
theorem eq3En (w : World) (d : Nat) {f g : En} (hf : FrOk f.fr) (hg : FrOk g.fr) (a b c : Field) (a1 : a.name = "At") (a2 : a.type = 3) (a3 : a.offset = 0)
    (b1 : b.name = "Dead") (b2 : b.type = 4) (b3 : b.offset = 1) (c1 : c.name = "Frame") (c2 : c.type = 40) (c3 : c.offset = 2) :
    (Op.eqFields (d + 1 + 1 + 1) (enA f) (enA g) [a, b, c]).run Try.prog w = .ok (enEq f g) w := by
  rw [eq_step w (d + 1 + 1 + 1) a [b, c] (enA f) (enA g) (.int .i64 f.at_) (.int .i64 g.at_) (f.at_ == g.at_) (by rw [a1]; decide)
    (by rw [a2, a3]; exact run_part_plain w fr_int (enA_at f)) (by rw [a2, a3]; exact run_part_plain w fr_int (enA_at g))
    (by rw [a2]; exact run_equalIn_int w (d + 1 + 1) 3 .i64 .i64 f.at_ g.at_ Try.underlying3)]
  rw [eq_step w (d + 1 + 1 + 1) b [c] (enA f) (enA g) (.bool f.dead) (.bool g.dead) (f.dead == g.dead) (by rw [b1]; decide)
    (by rw [b2, b3]; exact run_part_plain w en_bool (enA_dead f)) (by rw [b2, b3]; exact run_part_plain w en_bool (enA_dead g))
    (by rw [b2]; exact run_equalIn_bool w (d + 1 + 1) 4 f.dead g.dead Try.underlying4)]
  rw [eq_step w (d + 1 + 1 + 1) c [] (enA f) (enA g) (.agg (frA f.fr)) (.agg (frA g.fr)) (frEq f.fr g.fr) (by rw [c1]; decide)
    (by rw [c2, c3]; exact fr_part w hf) (by rw [c2, c3]; exact fr_part w hg)
    (by rw [c2]; exact run_eqFr w d hf hg)]
  unfold Op.eqFields
  rw [Sem.run_pure]
  unfold enEq
  cases (f.at_ == g.at_)
  · rfl
  · cases (f.dead == g.dead)
    · rfl
    · cases (frEq f.fr g.fr) <;> rfl
theorem run_eqEn (w : World) (d : Nat) {f g : En} (hf : FrOk f.fr) (hg : FrOk g.fr) :
    (Op.equalIn (d + 1 + 1 + 1 + 1) 42 (.agg (enA f)) (.agg (enA g))).run Try.prog w = .ok (enEq f g) w := by
  rw [run_equalIn_agg w (d + 1 + 1 + 1) _ _ _ en_struct en_stood]
  have hF := en_fields
  generalize (Try.prog.fieldsOf 42).toList = L at hF
  have hlen : L.length = 3 := by have := congrArg List.length hF; simpa using this
  match L, hlen, hF with
  | [a, b, c], _, hF =>
    simp only [List.map_cons, List.map_nil, List.cons.injEq, Prod.mk.injEq, and_true] at hF
    obtain ⟨⟨a1, a2, a3⟩, ⟨b1, b2, b3⟩, ⟨c1, c2, c3⟩⟩ := hF
    exact eq3En w d hf hg a b c a1 a2 a3 b1 b2 b3 c1 c2 c3
theorem run_neqEn (w : World) {f g : En} (hf : FrOk f.fr) (hg : FrOk g.fr) : (binOp .neq 42 (.agg (enA f)) (.agg (enA g))).run Try.prog w = .ok (.bool (!enEq f g)) w := by
  rw [run_neq_struct, show (10000 : Nat) = 9996 + 1 + 1 + 1 + 1 from rfl, run_eqEn w 9996 hf hg]
  rfl
theorem run_eqlEn (w : World) {f g : En} (hf : FrOk f.fr) (hg : FrOk g.fr) : (binOp .eql 42 (.agg (enA f)) (.agg (enA g))).run Try.prog w = .ok (.bool (enEq f g)) w := by
  rw [run_eql_struct, show (10000 : Nat) = 9996 + 1 + 1 + 1 + 1 from rfl, run_eqEn w 9996 hf hg]
  rfl

/-- The entry of zeros. -/
def enZ : En := ⟨0, false, frZ⟩
theorem enZ_ok : FrOk enZ.fr := frZ_ok
theorem enZ_eq : (#[.int .i64 0, .bool false, .int .i64 0, .int .i64 0, .int .u8 0, .int .u8 0, .int .u8 0, .int .u8 0, .int .u8 0, .int .u8 0, .int .u8 0, .int .u8 0, .int .u8 0, .int .u8 0, .int .u8 0, .int .u8 0, .int .u8 0, .int .u8 0, .int .u8 0, .int .u8 0, .int .u8 0, .int .u8 0, .int .u8 0, .int .u8 0, .int .u8 0, .int .u8 0, .int .u8 0, .int .u8 0] : Array Value) = enA enZ := rfl
theorem run_neqEZ (w : World) {x : En} (hx : FrOk x.fr) : (binOp .neq 42 (.agg (enA x)) (.agg #[.int .i64 0, .bool false, .int .i64 0, .int .i64 0, .int .u8 0, .int .u8 0, .int .u8 0, .int .u8 0, .int .u8 0, .int .u8 0, .int .u8 0, .int .u8 0, .int .u8 0, .int .u8 0, .int .u8 0, .int .u8 0, .int .u8 0, .int .u8 0, .int .u8 0, .int .u8 0, .int .u8 0, .int .u8 0, .int .u8 0, .int .u8 0, .int .u8 0, .int .u8 0, .int .u8 0, .int .u8 0])).run Try.prog w = .ok (.bool (!enEq x enZ)) w := by
  rw [enZ_eq]
  exact run_neqEn w hx enZ_ok
theorem run_buildEZ (w : World) : (Instr.build 42 #[]).run Try.prog w = .ok (.agg (enA enZ)) w := run_build w 42 _ _ (by kernel_rfl)
/-- It lies in a block. -/
def EAt (W : World) (g : Nat) (x : En) : Prop := W.heap[g]? = some (.cells (enA x) 42 (0, 0))
theorem EAt.lt {W : World} {g : Nat} {x : En} (h : EAt W g x) : g < W.heap.size := (Array.getElem?_eq_some_iff.1 h).1
theorem EAt.c0 {W : World} {g : Nat} {x : En} (h : EAt W g x) : W.cell? ⟨g, 0, none⟩ = some (.int .i64 x.at_) := by rw [cell_of_row _ _ _ _ _ _ h, enA_at]
theorem EAt.c1 {W : World} {g : Nat} {x : En} (h : EAt W g x) : W.cell? ⟨g, 1, none⟩ = some (.bool x.dead) := by rw [cell_of_row _ _ _ _ _ _ h, enA_dead]
theorem EAt.below {W W' : World} {g : Nat} {x : En} {B : Nat} (h : EAt W g x) (hb : Below B W W') (hg : g < B) : EAt W' g x := (hb.block g hg).trans h
theorem EAt.new (w : World) (x : En) : EAt (w.alloc (.cells (enA x) 42)) w.heap.size x := heap_alloc_new w _
theorem EAt.row {W : World} {g : Nat} {x : En} (h : EAt W g x) (y : En) : EAt (W.setRow g (enA y)) g y := setRow_heap _ _ _ _ _ _ h
theorem results_en3 {fn : Func} {p u v : Tmp} (h : fn.results = #[.cell p 42, .tmp u, .tmp v]) (tmps : Array Value) (W : World) (g : Nat) (x : En) (b : Bool) (e : Int) (hx : FrOk x.fr)
    (hp : tmps.getD p undef = .pointer (some ⟨g, 0, none⟩)) (hu : tmps.getD u undef = .bool b) (hv : tmps.getD v undef = .int .i64 e) (hg : EAt W g x) :
    (results fn tmps).run Try.prog W = .ok (.tuple #[.agg (enA x), .bool b, .int .i64 e]) W := by
  rw [results_cell_tmp2 h, hp, hu, hv, run_addr, Result.andThen_ok, run_loadVar_row W g 42 42 (enA x) (0, 0) _ hg Try.underlying42 rfl (sizeEn hx), Result.andThen_ok]
end Go.Proofs.Ytednnfmomhallaa
