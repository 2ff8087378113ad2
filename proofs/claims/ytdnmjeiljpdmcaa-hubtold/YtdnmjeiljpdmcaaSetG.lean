/- setup: Write and Read whole; an ask as an argument; two asks held against each other; setupLives. -/
import Derived.Test.YtdnmjeiljpdmcaaSetCa
import Derived.Test.YtdnmjeiljpdmcaaSetE
import Derived.OpenShut
import Derived.ChangeArms
import Derived.ChangeSame
import Derived.Laws.StructEq
namespace Go.Proofs.Ytdnmjeiljpdmcaa.setup
open Go.RowKit Go.PlainAid Go.Proofs.Ytdnmjeiljpdmcaa.lane Go.ChangeShapes Go.WideShapes Go.ChangeAt
set_option linter.unusedVariables false
set_option maxRecDepth 100000

def wrT (k v i l : Int) : ByteArray := if good k v i l = true then strOfNums (txt k v i l) else ⟨#[]⟩
def wrC (k v i l : Int) : Int := if good k v i l = true then 0 else 1
theorem write_any (k v i l : Int) (hi : -9223372036854775808 ≤ i ∧ i ≤ 9223372036854775807) (w : World) :
    Calls Try.prog 36 #[ask k v i l] w fun r w' => r = .returned (.tuple #[.string (wrT k v i l), .int .i64 (wrC k v i l)]) ∧ Below w.heap.size w w' := by
  have H := write_of shape_any k v i l hi
  unfold wrT wrC
  cases hg : good k v i l with
  | true => rw [if_pos rfl, if_pos rfl]; exact H.1 hg w
  | false => rw [if_neg (by simp), if_neg (by simp)]; exact H.2 hg w
/-- the ask that Read answers -/
def rK (s : ByteArray) : Int := if s.size = 8 then rdK s else 0
def rN (s : ByteArray) (j : Nat) : Int := if rK s = 0 then 0 else wat (nums s) j
theorem rA_eq (s : ByteArray) : rA s = ask (rK s) (rN s 2) (rN s 4) (rN s 6) := by
  unfold rA rN rK rdA
  by_cases h8 : s.size = 8
  · rw [if_pos h8, if_pos h8]
    by_cases h0 : rdK s = 0
    · simp only [h0, if_true]
    · simp only [h0, if_false]
  · rw [if_neg h8, if_neg h8]
    simp
theorem read_any (s : ByteArray) (hm : s.size ≤ maxLen) (w : World) :
    Calls Try.prog 37 #[.string s] w fun e w' => e = .returned (.tuple #[ask (rK s) (rN s 2) (rN s 4) (rN s 6), .int .i64 (rC s)]) ∧ Below w.heap.size w w' := by
  rw [← rA_eq]
  exact read_of shape_any s hm w
theorem rC_zero {s : ByteArray} (h : rC s = 0) : s.size = 8 ∧ rK s ≠ 0 ∧ hit (nums s) (rK s) = true := by
  unfold rC at h
  split at h
  · omega
  · split at h
    · rename_i h8
      unfold rdC at h
      split at h
      · omega
      · rename_i h0
        have hk : rK s = rdK s := by unfold rK; rw [if_pos h8]
        rw [hk]
        exact ⟨h8, h0, (find_hit 14 1 (by omega) h0).1⟩
    · omega
theorem rC_bad {s : ByteArray} (h : rC s ≠ 0) : rK s = 0 := by
  unfold rC at h
  unfold rK
  split at h
  · rw [if_neg (by omega)]
  · split at h
    · rename_i h8
      rw [if_pos h8]
      unfold rdC at h
      split at h
      · assumption
      · exact absurd rfl h
    · rename_i h8; rw [if_neg h8]
/-- what was read is written as it was -/
theorem read_write {s : ByteArray} (h : rC s = 0) : wrT (rK s) (rN s 2) (rN s 4) (rN s 6) = s ∧ wrC (rK s) (rN s 2) (rN s 4) (rN s 6) = 0 := by
  obtain ⟨h8, h0, hh⟩ := rC_zero h
  unfold rN
  simp only [h0, if_false]
  unfold hit at hh
  rw [Bool.and_eq_true, decide_eq_true_iff] at hh
  unfold wrT wrC
  rw [if_pos hh.1, if_pos hh.1, hh.2, str_nums]
  exact ⟨rfl, rfl⟩
/-- what was written is read as it was -/
theorem write_read {k v i l : Int} (h : good k v i l = true) : rK (wrT k v i l) = k ∧ rN (wrT k v i l) 2 = v ∧ rN (wrT k v i l) 4 = i ∧ rN (wrT k v i l) 6 = l ∧ rC (wrT k v i l) = 0 ∧ (wrT k v i l).size = 8 := by
  have e : wrT k v i l = strOfNums (txt k v i l) := by unfold wrT; rw [if_pos h]
  rw [e]
  have hn : nums (strOfNums (txt k v i l)) = txt k v i l := nums_str _ (txt_byt h)
  have hs : (strOfNums (txt k v i l)).size = 8 := by rw [str_size]; rfl
  have hk := (good_words h).1
  have hK : rK (strOfNums (txt k v i l)) = k := by unfold rK rdK; rw [if_pos hs, hn, find_txt h]
  obtain ⟨e1, e2, e3⟩ := wat_txt h
  have hk0 : ¬ k = 0 := by omega
  refine ⟨hK, ?_, ?_, ?_, ?_, hs⟩
  · unfold rN; rw [hK, hn, if_neg hk0, e1]
  · unfold rN; rw [hK, hn, if_neg hk0, e2]
  · unfold rN; rw [hK, hn, if_neg hk0, e3]
  · unfold rC rdC rdK
    rw [hs, hn, find_txt h, if_neg (by omega), if_pos rfl, if_neg hk0]
theorem und : Try.prog.underlying 52 = some (.struct (Try.prog.fieldsOf 52)) := by kernel_rfl
theorem stood : Try.prog.stoodInHeld 52 = false := by kernel_rfl
/-- are two asks alike? -/
def same (k v i l k' v' i' l' : Int) : Bool := k == k' && (v == v' && (i == i' && l == l'))
theorem eq_ask (k v i l k' v' i' l' : Int) (w : World) :
    (Op.equalIn 10000 52 (ask k v i l) (ask k' v' i' l')).run Try.prog w = .ok (same k v i l k' v' i' l') w := by
  rw [run_equalIn_struct w 9999 52 _ _ und stood]
  simp [go_sem]
  unfold same
  by_cases h1 : k = k' <;> by_cases h2 : v = v' <;> by_cases h3 : i = i' <;> by_cases h4 : l = l' <;> simp [h1, h2, h3, h4]
theorem eql_ask (k v i l k' v' i' l' : Int) (w : World) :
    (binOp .eql 52 (ask k v i l) (ask k' v' i' l')).run Try.prog w = .ok (.bool (same k v i l k' v' i' l')) w := by
  rw [run_eql_struct, eq_ask]; rfl
theorem neq_ask (k v i l k' v' i' l' : Int) (w : World) :
    (binOp .neq 52 (ask k v i l) (ask k' v' i' l')).run Try.prog w = .ok (.bool (!same k v i l k' v' i' l')) w := by
  rw [run_neq_struct, eq_ask]; rfl
theorem same_iff {k v i l k' v' i' l' : Int} : same k v i l k' v' i' l' = true ↔ k = k' ∧ v = v' ∧ i = i' ∧ l = l' := by
  simp [same]
theorem same_self (k v i l : Int) : same k v i l k v i l = true := same_iff.2 ⟨rfl, rfl, rfl, rfl⟩
theorem four_array {α : Type} {cs : Array α} (h : cs.size = 4) : ∃ c0 c1 c2 c3, cs = #[c0, c1, c2, c3] := by
  obtain ⟨l⟩ := cs
  match l, h with
  | [c0, c1, c2, c3], _ => exact ⟨c0, c1, c2, c3, rfl⟩
theorem four_list {α : Type} {l : List α} (h : l.length = 4) : ∃ c0 c1 c2 c3, l = [c0, c1, c2, c3] := by
  match l, h with
  | [c0, c1, c2, c3], _ => exact ⟨c0, c1, c2, c3, rfl⟩
theorem ask_cells : Try.prog.cellsOf 52 = 4 := by kernel_rfl
theorem int_cells : Try.prog.cellsOf 3 = 1 := by kernel_rfl
/-- an ask's datum -/
abbrev askD {H : Type} (k v i l : Int) : DataW H := .agg [.lit (.int .i64 k), .lit (.int .i64 v), .lit (.int .i64 i), .lit (.int .i64 l)]
theorem ask_open {H : Type} {enc : TypeId × Value → H} {w : World} {base : Nat} {spare : Nat → Bool} {held : Bool} {r : Reach} {b0 : Nat} {y : Value} {x : DataW H} {p : List MemPlace} (hv : Value.okWide Try.prog w r b0 52 y) (h : DataW.Trod enc Try.prog w base spare held 52 y x p) :
    ∃ (k v i l : Int), y = ask k v i l ∧ x = askD k v i l ∧ p = [] ∧ (Lit.int .i64 k).wf = true ∧ (Lit.int .i64 v).wf = true ∧ (Lit.int .i64 i).wf = true ∧ (Lit.int .i64 l).wf = true := by
  obtain ⟨cs, rfl, hsz⟩ := okWide_struct Try.underlying52 hv
  obtain ⟨c0, c1, c2, c3, rfl⟩ := four_array (hsz.trans ask_cells)
  obtain ⟨fuel, hf⟩ := h
  obtain ⟨xs, n, _, hx, _, hlen, hfs⟩ := DataW.trod_struct Try.underlying52 hf
  obtain ⟨y0, y1, y2, y3, rfl⟩ := four_list hlen
  have g0 := hfs 0 _ rfl
  have g1 := hfs 1 _ rfl
  have g2 := hfs 2 _ rfl
  have g3 := hfs 3 _ rfl
  simp [Value.cells, int_cells] at g0 g1 g2 g3
  obtain ⟨k, e0, rfl, wk⟩ := DataW.trod_int Try.underlying3 g0
  obtain ⟨v, e1, rfl, wv⟩ := DataW.trod_int Try.underlying3 g1
  obtain ⟨i, e2, rfl, wi⟩ := DataW.trod_int Try.underlying3 g2
  obtain ⟨l, e3, rfl, wl⟩ := DataW.trod_int Try.underlying3 g3
  simp at e0 e1 e2 e3
  subst e0 e1 e2 e3
  simp only [Prod.mk.injEq] at hx
  exact ⟨k, v, i, l, rfl, hx.1, hx.2, wk, wv, wi, wl⟩
theorem ask_shut {H : Type} {enc : TypeId × Value → H} {w : World} {base : Nat} {spare : Nat → Bool} {held : Bool} {k v i l : Int} (wk : (Lit.int .i64 k).wf = true) (wv : (Lit.int .i64 v).wf = true) (wi : (Lit.int .i64 i).wf = true) (wl : (Lit.int .i64 l).wf = true) :
    DataW.Trod enc Try.prog w base spare held 52 (ask k v i l) (askD k v i l) [] := by
  refine ⟨2, ?_⟩
  have := trod_struct_mk (enc := enc) (w := w) (base := base) (spare := spare) (held := held) (n := 1) (cs := [.int .i64 k, .int .i64 v, .int .i64 i, .int .i64 l]) (xs := [(.lit (.int .i64 k), []), (.lit (.int .i64 v), []), (.lit (.int .i64 i), []), (.lit (.int .i64 l), [])]) Try.underlying52 (by rw [ask_cells]; rfl)
    (by simp [DataW.trod, int_cells, Try.underlying3, wk, wv, wi, wl])
  simpa [Value.cells] using this
end Go.Proofs.Ytdnmjeiljpdmcaa.setup
