/- a write's bytes, its first byte replaced; a region's frame behind its plain walk. -/
import Derived.Test.YtecknicmonhcaabDoorBulW
import Derived.Test.YtecknicmonhcaabDoorBulZ
import Derived.Test.YtecknicmonhcaabDoorBulP
import Derived.Test.YtecknicmonhcaabDoorShelf
namespace Go.Proofs.YtecknicmonhcaabDoor.bulk
open Go Go.RowKit Go.PlainAid Go.Proofs.YtecknicmonhcaabDoor.lane Go.Proofs.YtecknicmonhcaabDoor.pipe Go.Proofs.YtecknicmonhcaabDoor.strike Go.Proofs.YtecknicmonhcaabDoor.scsi
set_option linter.unusedVariables false
set_option linter.unusedSimpArgs false
set_option maxRecDepth 100000

theorem rep2_list (r : List UInt8) : Lib.replace (42 :: r) [42] [40] 1 = 40 :: r := by
  have h0 : Lib.index (42 :: r) [42] = (0 : Nat) := by
    unfold Lib.index; simp
  unfold Lib.replace
  rw [if_neg (by decide)]
  have hn : Lib.replaceNum (42 :: r) [42] 1 = 1 := by
    unfold Lib.replaceNum
    rw [if_neg]
    · rfl
    · intro q
      rcases q with q | q
      · omega
      · have hc := Lib.count_hit (s := 42 :: r) (sub := [42]) (i := 0) (by decide) h0
        rw [hc] at q
        omega
  rw [hn, Lib.replaceK_hit _ _ _ _ _ h0]
  simp [Lib.replaceK]
theorem mk_hd {op lba cnt : Int} (h : mkB op lba cnt = true) : (mkT op lba cnt).data.toList = UInt8.ofNat op.toNat :: (strOfNums ((cmdL 0 lba cnt).drop 1)).data.toList := by
  unfold mkT
  rw [if_pos h, strOfNums_data, strOfNums_data]
  rfl
theorem rep2_any {lba cnt : Int} (h : mkB 42 lba cnt = true) (m : Int) (w : World) (hw : w.cell? ⟨0, 0, none⟩ = some (.int .i64 m)) : Calls Tryd.prog 9 #[.string (mkT 42 lba cnt), .string ⟨#[42]⟩, .string ⟨#[40]⟩, .int .i64 1] w fun e w' => e = .returned (.string (mkT 40 lba cnt)) ∧ Below w.heap.size w w' := by
  have h40 : mkB 40 lba cnt = true := (mk_both 40 42 lba cnt rfl rfl).trans h
  have hs := mk_size h
  have hc := Lib.countB_mul_le (⟨#[42]⟩ : ByteArray) (by decide) _ (mkT 42 lba cnt) (Nat.le_refl _)
  have e1 : (⟨#[42]⟩ : ByteArray).size = 1 := rfl
  have e2 : (⟨#[40]⟩ : ByteArray).size = 1 := rfl
  rw [e1, hs] at hc
  have := Tryd.strings_Replace (mkT 42 lba cnt) ⟨#[42]⟩ ⟨#[40]⟩ 1 m w (by omega) hw (by decide) (by rw [e2, hs]; omega)
  have e : (⟨(Lib.replace (mkT 42 lba cnt).data.toList (⟨#[42]⟩ : ByteArray).data.toList (⟨#[40]⟩ : ByteArray).data.toList 1).toArray⟩ : ByteArray) = mkT 40 lba cnt := by
    apply ext_list
    rw [mk_hd h, mk_hd h40]
    exact rep2_list _
  rw [e] at this
  exact this
def ten (lba cnt : Int) : List Int := [42, 0, 0, 0, 0, lba, 0, 0, cnt, 0]
theorem ten_mk {lba cnt : Int} (h0 : 0 ≤ lba) (h1 : lba ≤ 255) (h2 : 0 ≤ cnt) (h3 : cnt ≤ 255) : mkB 42 lba cnt = true ∧ strOfNums (ten lba cnt) = mkT 42 lba cnt := by
  have hm : mkB 42 lba cnt = true := (mk_iff _ _ _).2 ⟨.inr (.inl rfl), h0, by omega, h2, by omega⟩
  refine ⟨hm, ?_⟩
  unfold mkT
  rw [if_pos hm]
  congr 1
  have a0 : lba / 16777216 % 256 = 0 := by omega
  have a1 : lba / 65536 % 256 = 0 := by omega
  have a2 : lba / 256 % 256 = 0 := by omega
  have a3 : lba % 256 = lba := by omega
  have b1 : cnt / 256 % 256 = 0 := by omega
  have b3 : cnt % 256 = cnt := by omega
  simp [ten, cmdL, be4, be2, a0, a1, a2, a3, b1, b3]
section
variable {ops : Array Oper} {rest : List Oper} {o : Oper} {a : Act} {w : World} {Q : Exit → Act → World → Prop}
theorem v_bsn (hgd : Region.wanted o (yielded ops a.tmps) = true) {t e : TypeId} {n : Nat} {ps : Array (Nat × Operand)} (ho : o.op = .buildSlice t n ps) {vs : Array (Nat × Value)} {V : List Value}
    (hb : ∀ w, (Instr.buildSlice t n vs).run Tryd.prog w = .ok (.slice (some ⟨w.heap.size, 0, none⟩) n n) (w.alloc (bx e V))) (hv : ps.map (fun q => (q.1, a.eval q.2)) = vs)
    (h : ∀ u B, New w u B e V → wpList Tryd.prog ops Q rest (a.put o.dst (.slice (some ⟨B, 0, none⟩) n n)) u) : wpList Tryd.prog ops Q (o :: rest) a w := by
  subst hv
  refine wpList_step fun K hK' => ?_
  rw [if_pos hgd]
  unfold Oper.wp execOp
  simp only [ho, Sem.run_bind, hb, Result.andThen_ok, Sem.run_pure]
  exact hK' _ _ (h _ _ (New.alloc w e V))
theorem v_cnv (hgd : Region.wanted o (yielded ops a.tmps) = true) {x : Operand} (ho : o.op = .convert 26 9 x) {B n : Nat} (hx : a.eval x = .slice (some ⟨B, 0, none⟩) n n) {l : List Int} (hB : w.heap[B]? = some (bx 5 (l.map (Value.int .u8)))) (hl : l.length = n)
    (h : wpList Tryd.prog ops Q rest (a.put o.dst (.string (strOfNums l))) w) : wpList Tryd.prog ops Q (o :: rest) a w := by
  have hr : (convert 26 9 (.slice (some ⟨B, 0, none⟩) n n)).run Tryd.prog w = .ok (.string (strOfNums l)) w := by
    refine run_convert_bytes_arg _ 26 5 Tryd.underlying26 Tryd.underlying5 B 0 n n l hl ?_ 9 Tryd.underlying9
    intro i hi
    rw [Nat.zero_add]
    exact bx_cell hB (by simp [List.getD, List.getElem?_eq_getElem (show i < l.length by omega)])
  refine wpList_step fun K hK' => ?_
  rw [if_pos hgd]
  unfold Oper.wp execOp
  simp only [ho, hx, Sem.run_bind, hr, Result.andThen_ok, Sem.run_pure]
  exact hK' _ _ h
end
theorem bs_ten (lba cnt : Int) (w : World) : (Instr.buildSlice 26 10 #[(0, .int .u8 42), (1, .int .u8 0), (2, .int .u8 0), (3, .int .u8 0), (4, .int .u8 0), (5, .int .u8 lba), (6, .int .u8 0), (7, .int .u8 0), (8, .int .u8 cnt), (9, .int .u8 0)]).run Tryd.prog w = .ok (.slice (some ⟨w.heap.size, 0, none⟩) 10 10) (w.alloc (bx 5 ((ten lba cnt).map (Value.int .u8)))) := by kernel_rfl
theorem bld_wy (n : Int) (K : ByteArray) (w : World) : (Instr.build 31 #[(1, .int .i64 n), (4, .string K)]).run Tryd.prog w = .ok (ag (wpl (wy n K))) w := by kernel_rfl
theorem bld_ry (n : Int) (K : ByteArray) (w : World) : (Instr.build 31 #[(0, .int .i64 7), (1, .int .i64 n), (2, .bool true), (4, .string K)]).run Tryd.prog w = .ok (ag (wpl (ry n K))) w := by kernel_rfl
theorem Lay.whole {a a' : Act} {lo n N : Nat} {l : List Value} (h : Lay a a' lo n) (ha : a = ⟨l.toArray, []⟩) (hN : l.length = N) (hn : lo + n ≤ N) :
    a' = ⟨(l.take lo ++ ((List.range n).map (fun j => a'.tmps.getD (lo + j) undef) ++ l.drop (lo + n))).toArray, []⟩ := by
  have e := h.lit (l := l) (by rw [ha]) hN hn
  have d := h.defers
  rw [ha] at d
  obtain ⟨t, df⟩ := a'
  simp only at e d
  subst d
  congr 1
theorem txs_upto {w : World} {U g L cap : Nat} {l : List ByteArray} (h : Txs w U (.slice (some ⟨g, 0, none⟩) L cap) l) (u : World) (hb : Below U u w) (j : Nat) (y : ByteArray) : Below U u (w.setCell ⟨g, j, none⟩ (.string y)) := hb.setCell (txs_block h).1 _
/-- texts that are read stay when a box without texts is written -/
theorem rtz_box {w u : World} {B : Nat} {v : Value} {l : List ByteArray} {T : TypeId} {cs : List Value} (h : Rts w v l) (hB : w.heap[B]? = some (bx T cs)) (hns : ∀ y ∈ cs, ∀ x, y ≠ .string x) (hc : Chg B w u) : Rts u v l := by
  by_cases hl : 0 < l.length
  · refine Rts.chg h hc fun a n c hv e => ?_
    obtain ⟨a', c', hv', h1, h2, h4⟩ := h
    obtain ⟨g, off, ha, hg, hcell⟩ := h4 hl
    have : a = ⟨g, off, none⟩ := by
      rw [hv] at hv'; injection hv' with q _ _; rw [ha] at q; injection q
    subst this
    have e : g = B := e
    subst e
    have hx := hcell 0 l[0] (List.getElem?_eq_getElem hl)
    rw [Nat.add_zero, cell_of_row w g off _ _ (0, 0) hB] at hx
    have hx' : cs[off]? = some (.string l[0]) := by simpa using hx
    exact hns _ (List.mem_of_getElem? hx') _ rfl
  · obtain ⟨a, c, hv, h1, h2, _⟩ := h
    exact ⟨a, c, hv, h1, h2, fun q => absurd q hl⟩
theorem spl_ns (z : Sp) : ∀ y ∈ spl z, ∀ x, y ≠ .string x := fun y hy x e => by
  simp only [spl, List.mem_cons, List.not_mem_nil, or_false] at hy
  rcases hy with rfl | rfl | rfl <;> cases e
end Go.Proofs.YtecknicmonhcaabDoor.bulk
