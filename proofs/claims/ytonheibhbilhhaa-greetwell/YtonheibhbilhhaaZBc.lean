/- desc: devices: what ReadDevice answers. -/
import Derived.Test.YtonheibhbilhhaaZAd
import Derived.Test.YtonheibhbilhhaaZBb
import Derived.Test.YtonheibhbilhhaaZAg
import Derived.StillTail
namespace Go.Proofs.Ytonheibhbilhhaa.desc
open Go.RowKit Go.PlainAid Go.Proofs.Ytonheibhbilhhaa.lane
set_option linter.unusedVariables false
set_option linter.unusedSimpArgs false
set_option linter.unusedSimpArgs false

/-- the device that a text of eighteen bytes tells -/
def devO (s : ByteArray) : Dv := ⟨wdOf (s.extract 2 s.size), bt s 4, bt s 5, bt s 6, bt s 7, wdOf (s.extract 8 s.size), wdOf (s.extract 10 s.size), wdOf (s.extract 12 s.size), bt s 14, bt s 15, bt s 16, bt s 17⟩
def isDev (s : ByteArray) : Bool := devOk (devO s) && decide (strOfNums (devL (devO s)) = s)
def rdD (s : ByteArray) : Dv := if s.size < 18 then noD else if isDev s = true then devO s else noD
def rdE (s : ByteArray) : Int := if s.size < 18 then 3 else if isDev s = true then 0 else 4
theorem rdy_at {md : Region.Mode} {ops : Array Oper} {L : Array Bool} {k : Nat} (h : k ∈ Region.ready md ops L) : L.getD k false = false ∧ k < L.size := by
  have h0 := (mem_ready.1 h).1
  rcases Nat.lt_or_ge k L.size with h' | h'
  · refine ⟨?_, h'⟩
    simp [h'] at h0 ⊢
    exact h0
  · simp [Array.getElem?_eq_none h'] at h0
theorem rdy_after {md : Region.Mode} {ops : Array Oper} {L : Array Bool} {k j : Nat} (h : k ∈ Region.ready md ops L) (hw : Region.waitsFor md ops k j = true) : L.getD j false = true := by
  obtain ⟨oj, h1, e, he, hb, rfl⟩ := Region.waitsFor_spec hw
  obtain ⟨_, oj', h1', hall⟩ := mem_ready.1 h
  rw [h1] at h1'
  injection h1' with h1'
  subst h1'
  have := hall e he hb
  simp only [Array.getD_eq_getD_getElem?]
  first | (rw [this]; rfl) | simpa using this
theorem set_same {L : Array Bool} {k : Nat} (h : k < L.size) : (L.setIfInBounds k true).getD k false = true := by
  simp [h]
theorem box12 {u : World} {X : Nat} {T : TypeId} {d : Dv} (h : u.heap[X]? = some (.cells #[.int .i64 d.us, .int .i64 d.cl, .int .i64 d.su, .int .i64 d.pr, .int .i64 d.m0, .int .i64 d.ve, .int .i64 d.pd, .int .i64 d.re, .int .i64 d.ma, .int .i64 d.nm, .int .i64 d.se, .int .i64 d.cf] T)) : DvC u X d ∧ ∀ i, u.frozen? ⟨X, i, none⟩ = false := by
  have hlt := (Array.getElem?_eq_some_iff.1 h).1
  refine ⟨⟨hlt, ?_, ?_, ?_, ?_, ?_, ?_, ?_, ?_, ?_, ?_, ?_, ?_⟩, fun i => frozen_of_row u X i _ T h⟩ <;> (rw [cell_of_row u X _ _ T (0, 0) h]; rfl)
theorem bset1 {w v : World} {k : Nat} {x : Value} (h : Below w.heap.size w v) : Below w.heap.size w (v.setCell ⟨w.heap.size, k, none⟩ x) := h.setCell (Nat.le_refl _) x
theorem cset1 {v : World} {R : Nat} {cs cs' : Array Value} {T : TypeId} (k : Nat) (x : Value) (h : v.heap[R]? = some (.cells cs T)) (hk : cs.setIfInBounds k x = cs') : (v.setCell ⟨R, k, none⟩ x).heap[R]? = some (.cells cs' T) := by
  rw [← hk]; exact heap_setCell_same v R k cs T x h
theorem chain12 {v : World} {R : Nat} {e d : Dv} (h : v.heap[R]? = some (dvO e)) : ((((((((((((v.setCell ⟨R, 0, none⟩ (.int .i64 d.us)).setCell ⟨R, 1, none⟩ (.int .i64 d.cl)).setCell ⟨R, 2, none⟩ (.int .i64 d.su)).setCell ⟨R, 3, none⟩ (.int .i64 d.pr)).setCell ⟨R, 4, none⟩ (.int .i64 d.m0)).setCell ⟨R, 5, none⟩ (.int .i64 d.ve)).setCell ⟨R, 6, none⟩ (.int .i64 d.pd)).setCell ⟨R, 7, none⟩ (.int .i64 d.re)).setCell ⟨R, 8, none⟩ (.int .i64 d.ma)).setCell ⟨R, 9, none⟩ (.int .i64 d.nm)).setCell ⟨R, 10, none⟩ (.int .i64 d.se)).setCell ⟨R, 11, none⟩ (.int .i64 d.cf)).heap[R]? = some (dvO d) := by
  have h0 := cset1 (cs' := #[.int .i64 d.us, .int .i64 e.cl, .int .i64 e.su, .int .i64 e.pr, .int .i64 e.m0, .int .i64 e.ve, .int .i64 e.pd, .int .i64 e.re, .int .i64 e.ma, .int .i64 e.nm, .int .i64 e.se, .int .i64 e.cf]) 0 (.int .i64 d.us) h rfl
  have h1 := cset1 (cs' := #[.int .i64 d.us, .int .i64 d.cl, .int .i64 e.su, .int .i64 e.pr, .int .i64 e.m0, .int .i64 e.ve, .int .i64 e.pd, .int .i64 e.re, .int .i64 e.ma, .int .i64 e.nm, .int .i64 e.se, .int .i64 e.cf]) 1 (.int .i64 d.cl) h0 rfl
  have h2 := cset1 (cs' := #[.int .i64 d.us, .int .i64 d.cl, .int .i64 d.su, .int .i64 e.pr, .int .i64 e.m0, .int .i64 e.ve, .int .i64 e.pd, .int .i64 e.re, .int .i64 e.ma, .int .i64 e.nm, .int .i64 e.se, .int .i64 e.cf]) 2 (.int .i64 d.su) h1 rfl
  have h3 := cset1 (cs' := #[.int .i64 d.us, .int .i64 d.cl, .int .i64 d.su, .int .i64 d.pr, .int .i64 e.m0, .int .i64 e.ve, .int .i64 e.pd, .int .i64 e.re, .int .i64 e.ma, .int .i64 e.nm, .int .i64 e.se, .int .i64 e.cf]) 3 (.int .i64 d.pr) h2 rfl
  have h4 := cset1 (cs' := #[.int .i64 d.us, .int .i64 d.cl, .int .i64 d.su, .int .i64 d.pr, .int .i64 d.m0, .int .i64 e.ve, .int .i64 e.pd, .int .i64 e.re, .int .i64 e.ma, .int .i64 e.nm, .int .i64 e.se, .int .i64 e.cf]) 4 (.int .i64 d.m0) h3 rfl
  have h5 := cset1 (cs' := #[.int .i64 d.us, .int .i64 d.cl, .int .i64 d.su, .int .i64 d.pr, .int .i64 d.m0, .int .i64 d.ve, .int .i64 e.pd, .int .i64 e.re, .int .i64 e.ma, .int .i64 e.nm, .int .i64 e.se, .int .i64 e.cf]) 5 (.int .i64 d.ve) h4 rfl
  have h6 := cset1 (cs' := #[.int .i64 d.us, .int .i64 d.cl, .int .i64 d.su, .int .i64 d.pr, .int .i64 d.m0, .int .i64 d.ve, .int .i64 d.pd, .int .i64 e.re, .int .i64 e.ma, .int .i64 e.nm, .int .i64 e.se, .int .i64 e.cf]) 6 (.int .i64 d.pd) h5 rfl
  have h7 := cset1 (cs' := #[.int .i64 d.us, .int .i64 d.cl, .int .i64 d.su, .int .i64 d.pr, .int .i64 d.m0, .int .i64 d.ve, .int .i64 d.pd, .int .i64 d.re, .int .i64 e.ma, .int .i64 e.nm, .int .i64 e.se, .int .i64 e.cf]) 7 (.int .i64 d.re) h6 rfl
  have h8 := cset1 (cs' := #[.int .i64 d.us, .int .i64 d.cl, .int .i64 d.su, .int .i64 d.pr, .int .i64 d.m0, .int .i64 d.ve, .int .i64 d.pd, .int .i64 d.re, .int .i64 d.ma, .int .i64 e.nm, .int .i64 e.se, .int .i64 e.cf]) 8 (.int .i64 d.ma) h7 rfl
  have h9 := cset1 (cs' := #[.int .i64 d.us, .int .i64 d.cl, .int .i64 d.su, .int .i64 d.pr, .int .i64 d.m0, .int .i64 d.ve, .int .i64 d.pd, .int .i64 d.re, .int .i64 d.ma, .int .i64 d.nm, .int .i64 e.se, .int .i64 e.cf]) 9 (.int .i64 d.nm) h8 rfl
  have h10 := cset1 (cs' := #[.int .i64 d.us, .int .i64 d.cl, .int .i64 d.su, .int .i64 d.pr, .int .i64 d.m0, .int .i64 d.ve, .int .i64 d.pd, .int .i64 d.re, .int .i64 d.ma, .int .i64 d.nm, .int .i64 d.se, .int .i64 e.cf]) 10 (.int .i64 d.se) h9 rfl
  have h11 := cset1 (cs' := #[.int .i64 d.us, .int .i64 d.cl, .int .i64 d.su, .int .i64 d.pr, .int .i64 d.m0, .int .i64 d.ve, .int .i64 d.pd, .int .i64 d.re, .int .i64 d.ma, .int .i64 d.nm, .int .i64 d.se, .int .i64 d.cf]) 11 (.int .i64 d.cf) h10 rfl
  exact h11
set_option maxRecDepth 100000 in
set_option maxHeartbeats 1000000 in
theorem readDevice_long (s : ByteArray) (w : World) (hs : s.size ≤ maxLen) (h18 : ¬ s.size < 18) :
    Calls Try.prog 72 #[.string s] w fun e w' => e = .returned (.tuple #[dvV (if isDev s = true then devO s else noD), .int .i64 (if isDev s = true then 0 else 4)]) ∧ Below w.heap.size w w' := by
  unfold maxLen at hs
  have HW : Hid (∀ (t : ByteArray) (w : World), 2 ≤ t.size → Calls Try.prog 89 #[.string t] w fun e w' => e = .returned (.int .i64 (wdOf t)) ∧ ∃ q, w' = w.drewN q) := fun t w h => word_any t w h
  have HD : Hid (∀ w : World, Calls Try.prog 17 #[dvV (devO s)] w fun e w' => e = .returned (.tuple #[.string (wdT (devO s)), .int .i64 (wdC (devO s))]) ∧ Below w.heap.size w w') := fun w => writeDevice_any _ w
  have hcase : (isDev s = true ∧ wdC (devO s) = 0 ∧ wdT (devO s) = s) ∨ (isDev s = false ∧ (wdC (devO s) = 1 ∨ wdC (devO s) = 0 ∧ ¬ wdT (devO s) = s)) := by
    unfold isDev wdC wdT
    cases h : devOk (devO s)
    · right; exact ⟨by simp, .inl (by simp)⟩
    · by_cases h2 : strOfNums (devL (devO s)) = s
      · left; exact ⟨by simp [h2], by simp, by simpa using h2⟩
      · right; exact ⟨by simp [h2], .inr ⟨by simp, by simpa using h2⟩⟩
  have HCS : Hid ((isDev s = true ∧ wdC (devO s) = 0 ∧ wdT (devO s) = s) ∨ (isDev s = false ∧ (wdC (devO s) = 1 ∨ wdC (devO s) = 0 ∧ ¬ wdT (devO s) = s))) := hcase
  generalize isDev s = isd at *
  generalize wdC (devO s) = cd at *
  generalize wdT (devO s) = td at *
  have q1 : (18 : Int) ≤ (s.size : Int) := by omega
  have l2 : ∀ W : World, (Instr.slice 9 (.string s) (some (.int .i64 2)) none none).run Try.prog W = .ok (.string (s.extract 2 s.size)) W := run_cut s 2 (by omega)
  have z2 : 2 ≤ (s.extract 2 s.size).size := by rw [ByteArray.size_extract]; omega
  have l8 : ∀ W : World, (Instr.slice 9 (.string s) (some (.int .i64 8)) none none).run Try.prog W = .ok (.string (s.extract 8 s.size)) W := run_cut s 8 (by omega)
  have z8 : 2 ≤ (s.extract 8 s.size).size := by rw [ByteArray.size_extract]; omega
  have l10 : ∀ W : World, (Instr.slice 9 (.string s) (some (.int .i64 10)) none none).run Try.prog W = .ok (.string (s.extract 10 s.size)) W := run_cut s 10 (by omega)
  have z10 : 2 ≤ (s.extract 10 s.size).size := by rw [ByteArray.size_extract]; omega
  have l12 : ∀ W : World, (Instr.slice 9 (.string s) (some (.int .i64 12)) none none).run Try.prog W = .ok (.string (s.extract 12 s.size)) W := run_cut s 12 (by omega)
  have z12 : 2 ≤ (s.extract 12 s.size).size := by rw [ByteArray.size_extract]; omega
  have x4 : ∀ W : World, (Instr.index 9 (.string s) (.int .i64 4)).run Try.prog W = .ok (.int .u8 (bt s 4)) W := run_ix s 4 (by omega)
  have m4 : IntKind.i64.wrap (bt s 4) = bt s 4 := by have := bt_nonneg s 4; have := bt_le s 4; rw [IntKind.wrap_i64]; omega
  have x5 : ∀ W : World, (Instr.index 9 (.string s) (.int .i64 5)).run Try.prog W = .ok (.int .u8 (bt s 5)) W := run_ix s 5 (by omega)
  have m5 : IntKind.i64.wrap (bt s 5) = bt s 5 := by have := bt_nonneg s 5; have := bt_le s 5; rw [IntKind.wrap_i64]; omega
  have x6 : ∀ W : World, (Instr.index 9 (.string s) (.int .i64 6)).run Try.prog W = .ok (.int .u8 (bt s 6)) W := run_ix s 6 (by omega)
  have m6 : IntKind.i64.wrap (bt s 6) = bt s 6 := by have := bt_nonneg s 6; have := bt_le s 6; rw [IntKind.wrap_i64]; omega
  have x7 : ∀ W : World, (Instr.index 9 (.string s) (.int .i64 7)).run Try.prog W = .ok (.int .u8 (bt s 7)) W := run_ix s 7 (by omega)
  have m7 : IntKind.i64.wrap (bt s 7) = bt s 7 := by have := bt_nonneg s 7; have := bt_le s 7; rw [IntKind.wrap_i64]; omega
  have x14 : ∀ W : World, (Instr.index 9 (.string s) (.int .i64 14)).run Try.prog W = .ok (.int .u8 (bt s 14)) W := run_ix s 14 (by omega)
  have m14 : IntKind.i64.wrap (bt s 14) = bt s 14 := by have := bt_nonneg s 14; have := bt_le s 14; rw [IntKind.wrap_i64]; omega
  have x15 : ∀ W : World, (Instr.index 9 (.string s) (.int .i64 15)).run Try.prog W = .ok (.int .u8 (bt s 15)) W := run_ix s 15 (by omega)
  have m15 : IntKind.i64.wrap (bt s 15) = bt s 15 := by have := bt_nonneg s 15; have := bt_le s 15; rw [IntKind.wrap_i64]; omega
  have x16 : ∀ W : World, (Instr.index 9 (.string s) (.int .i64 16)).run Try.prog W = .ok (.int .u8 (bt s 16)) W := run_ix s 16 (by omega)
  have m16 : IntKind.i64.wrap (bt s 16) = bt s 16 := by have := bt_nonneg s 16; have := bt_le s 16; rw [IntKind.wrap_i64]; omega
  have x17 : ∀ W : World, (Instr.index 9 (.string s) (.int .i64 17)).run Try.prog W = .ok (.int .u8 (bt s 17)) W := run_ix s 17 (by omega)
  have m17 : IntKind.i64.wrap (bt s 17) = bt s 17 := by have := bt_nonneg s 17; have := bt_le s 17; rw [IntKind.wrap_i64]; omega
  unfold devO at HD ⊢
  clear hcase h18
  generalize s.extract 2 s.size = s2 at *
  generalize s.extract 8 s.size = s8 at *
  generalize s.extract 10 s.size = s10 at *
  generalize s.extract 12 s.size = s12 at *
  go_enter Try.func72, Try.ntmps72
  go_wp2_with fail
  obtain ⟨W0, hW0⟩ : ∃ W0, w.alloc (.cells #[.int .i64 0, .int .i64 0, .int .i64 0, .int .i64 0, .int .i64 0, .int .i64 0, .int .i64 0, .int .i64 0, .int .i64 0, .int .i64 0, .int .i64 0, .int .i64 0] 23) = W0 := ⟨_, rfl⟩
  have hz0 : W0.heap.size = w.heap.size + 1 := by rw [← hW0]; simp
  have hb0 : Below w.heap.size w W0 := by rw [← hW0]; exact balloc _ _
  have hr0 : W0.heap[w.heap.size]? = some (.cells #[.int .i64 0, .int .i64 0, .int .i64 0, .int .i64 0, .int .i64 0, .int .i64 0, .int .i64 0, .int .i64 0, .int .i64 0, .int .i64 0, .int .i64 0, .int .i64 0] 23) := by rw [← hW0]; exact (MapKept.heap_alloc w _).1
  rw [hW0]
  refine wp_region_L (St fun L => if L.getD 38 false = true then (if L.getD 37 false = true then some (W0.alloc (dvO ⟨wdOf s2, bt s 4, bt s 5, bt s 6, bt s 7, wdOf s8, wdOf s10, wdOf s12, bt s 14, bt s 15, bt s 16, bt s 17⟩)) else none) else if L.getD 37 false = true then some (W0.alloc (dvO noD)) else some W0) (by kernel_rfl) (by kernel_rfl) ⟨W0, 1, rfl, rfl⟩ ?_
  have hst : ∀ k, k ≠ 37 → k ≠ 38 → ∀ L : Array Bool, (if (L.setIfInBounds k true).getD 38 false = true then (if (L.setIfInBounds k true).getD 37 false = true then some (W0.alloc (dvO ⟨wdOf s2, bt s 4, bt s 5, bt s 6, bt s 7, wdOf s8, wdOf s10, wdOf s12, bt s 14, bt s 15, bt s 16, bt s 17⟩)) else none) else if (L.setIfInBounds k true).getD 37 false = true then some (W0.alloc (dvO noD)) else some W0) = (if L.getD 38 false = true then (if L.getD 37 false = true then some (W0.alloc (dvO ⟨wdOf s2, bt s 4, bt s 5, bt s 6, bt s 7, wdOf s8, wdOf s10, wdOf s12, bt s 14, bt s 15, bt s 16, bt s 17⟩)) else none) else if L.getD 37 false = true then some (W0.alloc (dvO noD)) else some W0) := fun k h1 h2 L => by rw [getD_set_ne false h1, getD_set_ne false h2]
  refine lex_plain (.string s) (fun L => by simp only [hst 0 (by decide) (by decide)]) rfl (fun W => by simp [execOp, go_sem]) ?_
  refine lex_plain (.string s2) (fun L => by simp only [hst 1 (by decide) (by decide)]) rfl (fun W => by simp [execOp, go_sem, l2]) ?_
  refine lex_call (.int .i64 (wdOf s2)) 89 #[.string s2] (fun L => by simp only [hst 2 (by decide) (by decide)]) rfl (fun W => by simp [execOp, go_sem]) (fun W => HW.out s2 W z2) ?_
  refine lex_plain (.string s) (fun L => by simp only [hst 3 (by decide) (by decide)]) rfl (fun W => by simp [execOp, go_sem]) ?_
  refine lex_plain (.int .u8 (bt s 4)) (fun L => by simp only [hst 4 (by decide) (by decide)]) rfl (fun W => by simp [execOp, go_sem, x4]) ?_
  refine lex_plain (.int .i64 (bt s 4)) (fun L => by simp only [hst 5 (by decide) (by decide)]) rfl (fun W => by simp [execOp, go_sem, m4]) ?_
  refine lex_plain (.string s) (fun L => by simp only [hst 6 (by decide) (by decide)]) rfl (fun W => by simp [execOp, go_sem]) ?_
  refine lex_plain (.int .u8 (bt s 5)) (fun L => by simp only [hst 7 (by decide) (by decide)]) rfl (fun W => by simp [execOp, go_sem, x5]) ?_
  refine lex_plain (.int .i64 (bt s 5)) (fun L => by simp only [hst 8 (by decide) (by decide)]) rfl (fun W => by simp [execOp, go_sem, m5]) ?_
  refine lex_plain (.string s) (fun L => by simp only [hst 9 (by decide) (by decide)]) rfl (fun W => by simp [execOp, go_sem]) ?_
  refine lex_plain (.int .u8 (bt s 6)) (fun L => by simp only [hst 10 (by decide) (by decide)]) rfl (fun W => by simp [execOp, go_sem, x6]) ?_
  refine lex_plain (.int .i64 (bt s 6)) (fun L => by simp only [hst 11 (by decide) (by decide)]) rfl (fun W => by simp [execOp, go_sem, m6]) ?_
  refine lex_plain (.string s) (fun L => by simp only [hst 12 (by decide) (by decide)]) rfl (fun W => by simp [execOp, go_sem]) ?_
  refine lex_plain (.int .u8 (bt s 7)) (fun L => by simp only [hst 13 (by decide) (by decide)]) rfl (fun W => by simp [execOp, go_sem, x7]) ?_
  refine lex_plain (.int .i64 (bt s 7)) (fun L => by simp only [hst 14 (by decide) (by decide)]) rfl (fun W => by simp [execOp, go_sem, m7]) ?_
  refine lex_plain (.string s) (fun L => by simp only [hst 15 (by decide) (by decide)]) rfl (fun W => by simp [execOp, go_sem]) ?_
  refine lex_plain (.string s8) (fun L => by simp only [hst 16 (by decide) (by decide)]) rfl (fun W => by simp [execOp, go_sem, l8]) ?_
  refine lex_call (.int .i64 (wdOf s8)) 89 #[.string s8] (fun L => by simp only [hst 17 (by decide) (by decide)]) rfl (fun W => by simp [execOp, go_sem]) (fun W => HW.out s8 W z8) ?_
  refine lex_plain (.string s) (fun L => by simp only [hst 18 (by decide) (by decide)]) rfl (fun W => by simp [execOp, go_sem]) ?_
  refine lex_plain (.string s10) (fun L => by simp only [hst 19 (by decide) (by decide)]) rfl (fun W => by simp [execOp, go_sem, l10]) ?_
  refine lex_call (.int .i64 (wdOf s10)) 89 #[.string s10] (fun L => by simp only [hst 20 (by decide) (by decide)]) rfl (fun W => by simp [execOp, go_sem]) (fun W => HW.out s10 W z10) ?_
  refine lex_plain (.string s) (fun L => by simp only [hst 21 (by decide) (by decide)]) rfl (fun W => by simp [execOp, go_sem]) ?_
  refine lex_plain (.string s12) (fun L => by simp only [hst 22 (by decide) (by decide)]) rfl (fun W => by simp [execOp, go_sem, l12]) ?_
  refine lex_call (.int .i64 (wdOf s12)) 89 #[.string s12] (fun L => by simp only [hst 23 (by decide) (by decide)]) rfl (fun W => by simp [execOp, go_sem]) (fun W => HW.out s12 W z12) ?_
  refine lex_plain (.string s) (fun L => by simp only [hst 24 (by decide) (by decide)]) rfl (fun W => by simp [execOp, go_sem]) ?_
  refine lex_plain (.int .u8 (bt s 14)) (fun L => by simp only [hst 25 (by decide) (by decide)]) rfl (fun W => by simp [execOp, go_sem, x14]) ?_
  refine lex_plain (.int .i64 (bt s 14)) (fun L => by simp only [hst 26 (by decide) (by decide)]) rfl (fun W => by simp [execOp, go_sem, m14]) ?_
  refine lex_plain (.string s) (fun L => by simp only [hst 27 (by decide) (by decide)]) rfl (fun W => by simp [execOp, go_sem]) ?_
  refine lex_plain (.int .u8 (bt s 15)) (fun L => by simp only [hst 28 (by decide) (by decide)]) rfl (fun W => by simp [execOp, go_sem, x15]) ?_
  refine lex_plain (.int .i64 (bt s 15)) (fun L => by simp only [hst 29 (by decide) (by decide)]) rfl (fun W => by simp [execOp, go_sem, m15]) ?_
  refine lex_plain (.string s) (fun L => by simp only [hst 30 (by decide) (by decide)]) rfl (fun W => by simp [execOp, go_sem]) ?_
  refine lex_plain (.int .u8 (bt s 16)) (fun L => by simp only [hst 31 (by decide) (by decide)]) rfl (fun W => by simp [execOp, go_sem, x16]) ?_
  refine lex_plain (.int .i64 (bt s 16)) (fun L => by simp only [hst 32 (by decide) (by decide)]) rfl (fun W => by simp [execOp, go_sem, m16]) ?_
  refine lex_plain (.string s) (fun L => by simp only [hst 33 (by decide) (by decide)]) rfl (fun W => by simp [execOp, go_sem]) ?_
  refine lex_plain (.int .u8 (bt s 17)) (fun L => by simp only [hst 34 (by decide) (by decide)]) rfl (fun W => by simp [execOp, go_sem, x17]) ?_
  refine lex_plain (.int .i64 (bt s 17)) (fun L => by simp only [hst 35 (by decide) (by decide)]) rfl (fun W => by simp [execOp, go_sem, m17]) ?_
  refine lex_plain (.agg #[.int .i64 (wdOf s2), .int .i64 (bt s 4), .int .i64 (bt s 5), .int .i64 (bt s 6), .int .i64 (bt s 7), .int .i64 (wdOf s8), .int .i64 (wdOf s10), .int .i64 (wdOf s12), .int .i64 (bt s 14), .int .i64 (bt s 15), .int .i64 (bt s 16), .int .i64 (bt s 17)]) (fun L => by simp only [hst 36 (by decide) (by decide)]) rfl (fun W => by simp [execOp, go_sem]) ?_
  refine lex_turn (.pointer (some ⟨W0.heap.size, 0, none⟩)) rfl (fun L W n hr hs => ?_) ?_
  · obtain ⟨h37, hz37⟩ := rdy_at hr
    have h37' : (L.setIfInBounds 37 true).getD 37 false = true := set_same hz37
    have h38' : (L.setIfInBounds 37 true).getD 38 false = L.getD 38 false := getD_set_ne false (by decide)
    have h37 : L.getD 37 false = false := h37
    cases h38 : L.getD 38 false
    · simp only [h38, h37] at hs
      have hs : some W0 = some W := hs
      injection hs with hs
      subst hs
      refine ⟨W0.alloc (dvO noD), ?_, .inl ?_⟩
      · show (if (L.setIfInBounds 37 true).getD 38 false = true then _ else if (L.setIfInBounds 37 true).getD 37 false = true then _ else _) = _
        rw [h38', h38, h37']
        rfl
      · simp [execOp, go_sem, noD]
        rfl
    · simp only [h38, h37] at hs
      have hs : (none : Option World) = some W := hs
      cases hs
  refine lex_turn undef rfl (fun L W n hr hs => ?_) ?_
  · obtain ⟨h38, hz38⟩ := rdy_at hr
    have h37 : L.getD 37 false = true := rdy_after hr (by kernel_rfl)
    have h38 : L.getD 38 false = false := h38
    have h38' : (L.setIfInBounds 38 true).getD 38 false = true := set_same hz38
    have h37' : (L.setIfInBounds 38 true).getD 37 false = L.getD 37 false := getD_set_ne false (by decide)
    simp only [h38, h37] at hs
    have hs : some (W0.alloc (dvO noD)) = some W := hs
    injection hs with hs
    subst hs
    refine ⟨W0.alloc (dvO ⟨wdOf s2, bt s 4, bt s 5, bt s 6, bt s 7, wdOf s8, wdOf s10, wdOf s12, bt s 14, bt s 15, bt s 16, bt s 17⟩), ?_, .inr ⟨?_, rfl⟩⟩
    · show (if (L.setIfInBounds 38 true).getD 38 false = true then (if (L.setIfInBounds 38 true).getD 37 false = true then _ else _) else _) = _
      rw [h38', h37', h37]
      rfl
    · simp [execOp, go_sem, noD]
      simp only [set_drewN]
      simp [go_sem]
  intro w' hw'
  obtain ⟨W, n, hs, rfl⟩ := hw'
  have hs2 : some (W0.alloc (dvO ⟨wdOf s2, bt s 4, bt s 5, bt s 6, bt s 7, wdOf s8, wdOf s10, wdOf s12, bt s 14, bt s 15, bt s 16, bt s 17⟩)) = some W := hs
  injection hs2 with hs2
  subst hs2
  obtain ⟨u, hu⟩ : ∃ u, (W0.alloc (dvO ⟨wdOf s2, bt s 4, bt s 5, bt s 6, bt s 7, wdOf s8, wdOf s10, wdOf s12, bt s 14, bt s 15, bt s 16, bt s 17⟩)).drewN n = u := ⟨_, rfl⟩
  have hbu : Below w.heap.size w u := by rw [← hu]; exact below_drewN (bsq hb0 (balloc _ _)) _
  have hX : u.heap[W0.heap.size]? = some (dvO ⟨wdOf s2, bt s 4, bt s 5, bt s 6, bt s 7, wdOf s8, wdOf s10, wdOf s12, bt s 14, bt s 15, bt s 16, bt s 17⟩) := by rw [← hu]; exact (MapKept.heap_alloc W0 _).1
  have hR : u.heap[w.heap.size]? = some (dvO noD) := by rw [← hu]; exact ((MapKept.heap_alloc W0 _).2 _ (by omega)).trans hr0
  rw [hu]
  obtain ⟨XB, hXB⟩ : ∃ X, W0.heap.size = X := ⟨_, rfl⟩
  rw [hXB] at hX ⊢
  have HX : Hid (u.heap[XB]? = some (dvO ⟨wdOf s2, bt s 4, bt s 5, bt s 6, bt s 7, wdOf s8, wdOf s10, wdOf s12, bt s 14, bt s 15, bt s 16, bt s 17⟩)) := hX
  have HR : Hid (u.heap[w.heap.size]? = some (dvO noD)) := hR
  have HB : Hid (Below w.heap.size w u) := hbu
  obtain ⟨⟨_, c0, c1, c2, c3, c4, c5, c6, c7, c8, c9, c10, c11⟩, _⟩ := box12 hX
  clear hu hs hst hX hR hbu hr0 hb0 hW0 hz0 hXB HW l2 z2 l8 z8 l10 z10 l12 z12 x4 m4 x5 m5 x6 m6 x7 m7 x14 m14 x15 m15 x16 m16 x17 m17
  go_wp2_with fail
  refine (HD.out _).mono ?_
  rintro e v ⟨rfl, hbv⟩
  have HBv : Hid (Below w.heap.size w v) := bsq HB.out hbv
  clear c0 c1 c2 c3 c4 c5 c6 c7 c8 c9 c10 c11
  have hXv := (hbv.block XB (Array.getElem?_eq_some_iff.1 HX.out).1).trans HX.out
  have hRv := (hbv.block w.heap.size (Array.getElem?_eq_some_iff.1 HR.out).1).trans HR.out
  obtain ⟨⟨hzX, c0, c1, c2, c3, c4, c5, c6, c7, c8, c9, c10, c11⟩, _⟩ := box12 hXv
  obtain ⟨⟨hzR, z0, z1, z2, z3, z4, z5, z6, z7, z8, z9, z10, z11⟩, hfr⟩ := box12 hRv
  simp only [noD] at z0 z1 z2 z3 z4 z5 z6 z7 z8 z9 z10 z11
  have f0 := hfr 0
  have f1 := hfr 1
  have f2 := hfr 2
  have f3 := hfr 3
  have f4 := hfr 4
  have f5 := hfr 5
  have f6 := hfr 6
  have f7 := hfr 7
  have f8 := hfr 8
  have f9 := hfr 9
  have f10 := hfr 10
  have f11 := hfr 11
  have HRv : Hid (v.heap[w.heap.size]? = some (dvO noD)) := hRv
  clear hXv hRv hbv HX HR hfr
  rcases HCS.out with ⟨rfl, rfl, htd⟩ | ⟨rfl, rfl | ⟨rfl, hne⟩⟩
  · have htd := htd.symm
    subst htd
    have hch : ((((((((((((v.setCell ⟨w.heap.size, 0, none⟩ (.int .i64 (wdOf s2))).setCell ⟨w.heap.size, 1, none⟩ (.int .i64 (bt s 4))).setCell ⟨w.heap.size, 2, none⟩ (.int .i64 (bt s 5))).setCell ⟨w.heap.size, 3, none⟩ (.int .i64 (bt s 6))).setCell ⟨w.heap.size, 4, none⟩ (.int .i64 (bt s 7))).setCell ⟨w.heap.size, 5, none⟩ (.int .i64 (wdOf s8))).setCell ⟨w.heap.size, 6, none⟩ (.int .i64 (wdOf s10))).setCell ⟨w.heap.size, 7, none⟩ (.int .i64 (wdOf s12))).setCell ⟨w.heap.size, 8, none⟩ (.int .i64 (bt s 14))).setCell ⟨w.heap.size, 9, none⟩ (.int .i64 (bt s 15))).setCell ⟨w.heap.size, 10, none⟩ (.int .i64 (bt s 16))).setCell ⟨w.heap.size, 11, none⟩ (.int .i64 (bt s 17))).heap[w.heap.size]? = some (dvO ⟨wdOf s2, bt s 4, bt s 5, bt s 6, bt s 7, wdOf s8, wdOf s10, wdOf s12, bt s 14, bt s 15, bt s 16, bt s 17⟩) := chain12 (e := noD) (d := ⟨wdOf s2, bt s 4, bt s 5, bt s 6, bt s 7, wdOf s8, wdOf s10, wdOf s12, bt s 14, bt s 15, bt s 16, bt s 17⟩) HRv.out
    have hBf : Below w.heap.size w ((((((((((((v.setCell ⟨w.heap.size, 0, none⟩ (.int .i64 (wdOf s2))).setCell ⟨w.heap.size, 1, none⟩ (.int .i64 (bt s 4))).setCell ⟨w.heap.size, 2, none⟩ (.int .i64 (bt s 5))).setCell ⟨w.heap.size, 3, none⟩ (.int .i64 (bt s 6))).setCell ⟨w.heap.size, 4, none⟩ (.int .i64 (bt s 7))).setCell ⟨w.heap.size, 5, none⟩ (.int .i64 (wdOf s8))).setCell ⟨w.heap.size, 6, none⟩ (.int .i64 (wdOf s10))).setCell ⟨w.heap.size, 7, none⟩ (.int .i64 (wdOf s12))).setCell ⟨w.heap.size, 8, none⟩ (.int .i64 (bt s 14))).setCell ⟨w.heap.size, 9, none⟩ (.int .i64 (bt s 15))).setCell ⟨w.heap.size, 10, none⟩ (.int .i64 (bt s 16))).setCell ⟨w.heap.size, 11, none⟩ (.int .i64 (bt s 17))) := (bset1 (bset1 (bset1 (bset1 (bset1 (bset1 (bset1 (bset1 (bset1 (bset1 (bset1 (bset1 HBv.out))))))))))))
    obtain ⟨vf, hvf⟩ : ∃ vf, ((((((((((((v.setCell ⟨w.heap.size, 0, none⟩ (.int .i64 (wdOf s2))).setCell ⟨w.heap.size, 1, none⟩ (.int .i64 (bt s 4))).setCell ⟨w.heap.size, 2, none⟩ (.int .i64 (bt s 5))).setCell ⟨w.heap.size, 3, none⟩ (.int .i64 (bt s 6))).setCell ⟨w.heap.size, 4, none⟩ (.int .i64 (bt s 7))).setCell ⟨w.heap.size, 5, none⟩ (.int .i64 (wdOf s8))).setCell ⟨w.heap.size, 6, none⟩ (.int .i64 (wdOf s10))).setCell ⟨w.heap.size, 7, none⟩ (.int .i64 (wdOf s12))).setCell ⟨w.heap.size, 8, none⟩ (.int .i64 (bt s 14))).setCell ⟨w.heap.size, 9, none⟩ (.int .i64 (bt s 15))).setCell ⟨w.heap.size, 10, none⟩ (.int .i64 (bt s 16))).setCell ⟨w.heap.size, 11, none⟩ (.int .i64 (bt s 17))) = vf := ⟨_, rfl⟩
    rw [hvf] at hch hBf
    go_wp2
    try rw [hvf]
    obtain ⟨⟨hzf, r0, r1, r2, r3, r4, r5, r6, r7, r8, r9, r10, r11⟩, _⟩ := box12 hch
    exact bodyPost_ret (v := .tuple #[dvV ⟨wdOf s2, bt s 4, bt s 5, bt s 6, bt s 7, wdOf s8, wdOf s10, wdOf s12, bt s 14, bt s 15, bt s 16, bt s 17⟩, .int .i64 0]) (by simp [results, Try.results72, go_sem, hzf, r0, r1, r2, r3, r4, r5, r6, r7, r8, r9, r10, r11]) rfl ⟨rfl, hBf⟩
  · have hch : ((((((((((((v.setCell ⟨w.heap.size, 0, none⟩ (.int .i64 (0))).setCell ⟨w.heap.size, 1, none⟩ (.int .i64 (0))).setCell ⟨w.heap.size, 2, none⟩ (.int .i64 (0))).setCell ⟨w.heap.size, 3, none⟩ (.int .i64 (0))).setCell ⟨w.heap.size, 4, none⟩ (.int .i64 (0))).setCell ⟨w.heap.size, 5, none⟩ (.int .i64 (0))).setCell ⟨w.heap.size, 6, none⟩ (.int .i64 (0))).setCell ⟨w.heap.size, 7, none⟩ (.int .i64 (0))).setCell ⟨w.heap.size, 8, none⟩ (.int .i64 (0))).setCell ⟨w.heap.size, 9, none⟩ (.int .i64 (0))).setCell ⟨w.heap.size, 10, none⟩ (.int .i64 (0))).setCell ⟨w.heap.size, 11, none⟩ (.int .i64 (0))).heap[w.heap.size]? = some (dvO noD) := chain12 (e := noD) (d := noD) HRv.out
    have hBf : Below w.heap.size w ((((((((((((v.setCell ⟨w.heap.size, 0, none⟩ (.int .i64 (0))).setCell ⟨w.heap.size, 1, none⟩ (.int .i64 (0))).setCell ⟨w.heap.size, 2, none⟩ (.int .i64 (0))).setCell ⟨w.heap.size, 3, none⟩ (.int .i64 (0))).setCell ⟨w.heap.size, 4, none⟩ (.int .i64 (0))).setCell ⟨w.heap.size, 5, none⟩ (.int .i64 (0))).setCell ⟨w.heap.size, 6, none⟩ (.int .i64 (0))).setCell ⟨w.heap.size, 7, none⟩ (.int .i64 (0))).setCell ⟨w.heap.size, 8, none⟩ (.int .i64 (0))).setCell ⟨w.heap.size, 9, none⟩ (.int .i64 (0))).setCell ⟨w.heap.size, 10, none⟩ (.int .i64 (0))).setCell ⟨w.heap.size, 11, none⟩ (.int .i64 (0))) := (bset1 (bset1 (bset1 (bset1 (bset1 (bset1 (bset1 (bset1 (bset1 (bset1 (bset1 (bset1 HBv.out))))))))))))
    obtain ⟨vf, hvf⟩ : ∃ vf, ((((((((((((v.setCell ⟨w.heap.size, 0, none⟩ (.int .i64 (0))).setCell ⟨w.heap.size, 1, none⟩ (.int .i64 (0))).setCell ⟨w.heap.size, 2, none⟩ (.int .i64 (0))).setCell ⟨w.heap.size, 3, none⟩ (.int .i64 (0))).setCell ⟨w.heap.size, 4, none⟩ (.int .i64 (0))).setCell ⟨w.heap.size, 5, none⟩ (.int .i64 (0))).setCell ⟨w.heap.size, 6, none⟩ (.int .i64 (0))).setCell ⟨w.heap.size, 7, none⟩ (.int .i64 (0))).setCell ⟨w.heap.size, 8, none⟩ (.int .i64 (0))).setCell ⟨w.heap.size, 9, none⟩ (.int .i64 (0))).setCell ⟨w.heap.size, 10, none⟩ (.int .i64 (0))).setCell ⟨w.heap.size, 11, none⟩ (.int .i64 (0))) = vf := ⟨_, rfl⟩
    rw [hvf] at hch hBf
    go_wp2
    try rw [hvf]
    obtain ⟨⟨hzf, r0, r1, r2, r3, r4, r5, r6, r7, r8, r9, r10, r11⟩, _⟩ := box12 hch
    exact bodyPost_ret (v := .tuple #[dvV noD, .int .i64 4]) (by simp [results, Try.results72, go_sem, hzf, r0, r1, r2, r3, r4, r5, r6, r7, r8, r9, r10, r11, noD]) rfl ⟨rfl, hBf⟩
  · have hne2 : (td.toList == s.toList) = false := by rw [toList_beq]; simpa using hne
    clear hne
    have hch : ((((((((((((v.setCell ⟨w.heap.size, 0, none⟩ (.int .i64 (0))).setCell ⟨w.heap.size, 1, none⟩ (.int .i64 (0))).setCell ⟨w.heap.size, 2, none⟩ (.int .i64 (0))).setCell ⟨w.heap.size, 3, none⟩ (.int .i64 (0))).setCell ⟨w.heap.size, 4, none⟩ (.int .i64 (0))).setCell ⟨w.heap.size, 5, none⟩ (.int .i64 (0))).setCell ⟨w.heap.size, 6, none⟩ (.int .i64 (0))).setCell ⟨w.heap.size, 7, none⟩ (.int .i64 (0))).setCell ⟨w.heap.size, 8, none⟩ (.int .i64 (0))).setCell ⟨w.heap.size, 9, none⟩ (.int .i64 (0))).setCell ⟨w.heap.size, 10, none⟩ (.int .i64 (0))).setCell ⟨w.heap.size, 11, none⟩ (.int .i64 (0))).heap[w.heap.size]? = some (dvO noD) := chain12 (e := noD) (d := noD) HRv.out
    have hBf : Below w.heap.size w ((((((((((((v.setCell ⟨w.heap.size, 0, none⟩ (.int .i64 (0))).setCell ⟨w.heap.size, 1, none⟩ (.int .i64 (0))).setCell ⟨w.heap.size, 2, none⟩ (.int .i64 (0))).setCell ⟨w.heap.size, 3, none⟩ (.int .i64 (0))).setCell ⟨w.heap.size, 4, none⟩ (.int .i64 (0))).setCell ⟨w.heap.size, 5, none⟩ (.int .i64 (0))).setCell ⟨w.heap.size, 6, none⟩ (.int .i64 (0))).setCell ⟨w.heap.size, 7, none⟩ (.int .i64 (0))).setCell ⟨w.heap.size, 8, none⟩ (.int .i64 (0))).setCell ⟨w.heap.size, 9, none⟩ (.int .i64 (0))).setCell ⟨w.heap.size, 10, none⟩ (.int .i64 (0))).setCell ⟨w.heap.size, 11, none⟩ (.int .i64 (0))) := (bset1 (bset1 (bset1 (bset1 (bset1 (bset1 (bset1 (bset1 (bset1 (bset1 (bset1 (bset1 HBv.out))))))))))))
    obtain ⟨vf, hvf⟩ : ∃ vf, ((((((((((((v.setCell ⟨w.heap.size, 0, none⟩ (.int .i64 (0))).setCell ⟨w.heap.size, 1, none⟩ (.int .i64 (0))).setCell ⟨w.heap.size, 2, none⟩ (.int .i64 (0))).setCell ⟨w.heap.size, 3, none⟩ (.int .i64 (0))).setCell ⟨w.heap.size, 4, none⟩ (.int .i64 (0))).setCell ⟨w.heap.size, 5, none⟩ (.int .i64 (0))).setCell ⟨w.heap.size, 6, none⟩ (.int .i64 (0))).setCell ⟨w.heap.size, 7, none⟩ (.int .i64 (0))).setCell ⟨w.heap.size, 8, none⟩ (.int .i64 (0))).setCell ⟨w.heap.size, 9, none⟩ (.int .i64 (0))).setCell ⟨w.heap.size, 10, none⟩ (.int .i64 (0))).setCell ⟨w.heap.size, 11, none⟩ (.int .i64 (0))) = vf := ⟨_, rfl⟩
    rw [hvf] at hch hBf
    go_wp2
    try rw [hvf]
    obtain ⟨⟨hzf, r0, r1, r2, r3, r4, r5, r6, r7, r8, r9, r10, r11⟩, _⟩ := box12 hch
    exact bodyPost_ret (v := .tuple #[dvV noD, .int .i64 4]) (by simp [results, Try.results72, go_sem, hzf, r0, r1, r2, r3, r4, r5, r6, r7, r8, r9, r10, r11, noD]) rfl ⟨rfl, hBf⟩
end Go.Proofs.Ytonheibhbilhhaa.desc

/- desc: what ReadDevice answers of any text. -/
namespace Go.Proofs.Ytonheibhbilhhaa.desc
open Go.RowKit Go.PlainAid Go.Proofs.Ytonheibhbilhhaa.lane
set_option linter.unusedVariables false
set_option linter.unusedSimpArgs false

set_option maxRecDepth 100000 in
set_option maxHeartbeats 1000000 in
theorem readDevice_short (s : ByteArray) (w : World) (h18 : s.size < 18) :
    Calls Try.prog 72 #[.string s] w fun e w' => e = .returned (.tuple #[dvV noD, .int .i64 3]) ∧ Below w.heap.size w w' := by
  obtain ⟨v, hv⟩ : ∃ v, w.alloc (.cells #[.int .i64 0, .int .i64 0, .int .i64 0, .int .i64 0, .int .i64 0, .int .i64 0, .int .i64 0, .int .i64 0, .int .i64 0, .int .i64 0, .int .i64 0, .int .i64 0] 23) = v := ⟨_, rfl⟩
  have HB0 : Hid (Below w.heap.size w v) := by rw [← hv]; exact balloc _ _
  have hRv : v.heap[w.heap.size]? = some (dvO noD) := by rw [← hv]; exact (MapKept.heap_alloc w _).1
  obtain ⟨⟨hzR, z0, z1, z2, z3, z4, z5, z6, z7, z8, z9, z10, z11⟩, hfr⟩ := box12 hRv
  simp only [noD] at z0 z1 z2 z3 z4 z5 z6 z7 z8 z9 z10 z11
  have f0 := hfr 0
  have f1 := hfr 1
  have f2 := hfr 2
  have f3 := hfr 3
  have f4 := hfr 4
  have f5 := hfr 5
  have f6 := hfr 6
  have f7 := hfr 7
  have f8 := hfr 8
  have f9 := hfr 9
  have f10 := hfr 10
  have f11 := hfr 11
  have hch : ((((((((((((v.setCell ⟨w.heap.size, 0, none⟩ (.int .i64 (0))).setCell ⟨w.heap.size, 1, none⟩ (.int .i64 (0))).setCell ⟨w.heap.size, 2, none⟩ (.int .i64 (0))).setCell ⟨w.heap.size, 3, none⟩ (.int .i64 (0))).setCell ⟨w.heap.size, 4, none⟩ (.int .i64 (0))).setCell ⟨w.heap.size, 5, none⟩ (.int .i64 (0))).setCell ⟨w.heap.size, 6, none⟩ (.int .i64 (0))).setCell ⟨w.heap.size, 7, none⟩ (.int .i64 (0))).setCell ⟨w.heap.size, 8, none⟩ (.int .i64 (0))).setCell ⟨w.heap.size, 9, none⟩ (.int .i64 (0))).setCell ⟨w.heap.size, 10, none⟩ (.int .i64 (0))).setCell ⟨w.heap.size, 11, none⟩ (.int .i64 (0))).heap[w.heap.size]? = some (dvO noD) := chain12 (e := noD) (d := noD) hRv
  have hBf : Below w.heap.size w ((((((((((((v.setCell ⟨w.heap.size, 0, none⟩ (.int .i64 (0))).setCell ⟨w.heap.size, 1, none⟩ (.int .i64 (0))).setCell ⟨w.heap.size, 2, none⟩ (.int .i64 (0))).setCell ⟨w.heap.size, 3, none⟩ (.int .i64 (0))).setCell ⟨w.heap.size, 4, none⟩ (.int .i64 (0))).setCell ⟨w.heap.size, 5, none⟩ (.int .i64 (0))).setCell ⟨w.heap.size, 6, none⟩ (.int .i64 (0))).setCell ⟨w.heap.size, 7, none⟩ (.int .i64 (0))).setCell ⟨w.heap.size, 8, none⟩ (.int .i64 (0))).setCell ⟨w.heap.size, 9, none⟩ (.int .i64 (0))).setCell ⟨w.heap.size, 10, none⟩ (.int .i64 (0))).setCell ⟨w.heap.size, 11, none⟩ (.int .i64 (0))) := (bset1 (bset1 (bset1 (bset1 (bset1 (bset1 (bset1 (bset1 (bset1 (bset1 (bset1 (bset1 HB0.out))))))))))))
  obtain ⟨vf, hvf⟩ : ∃ vf, ((((((((((((v.setCell ⟨w.heap.size, 0, none⟩ (.int .i64 (0))).setCell ⟨w.heap.size, 1, none⟩ (.int .i64 (0))).setCell ⟨w.heap.size, 2, none⟩ (.int .i64 (0))).setCell ⟨w.heap.size, 3, none⟩ (.int .i64 (0))).setCell ⟨w.heap.size, 4, none⟩ (.int .i64 (0))).setCell ⟨w.heap.size, 5, none⟩ (.int .i64 (0))).setCell ⟨w.heap.size, 6, none⟩ (.int .i64 (0))).setCell ⟨w.heap.size, 7, none⟩ (.int .i64 (0))).setCell ⟨w.heap.size, 8, none⟩ (.int .i64 (0))).setCell ⟨w.heap.size, 9, none⟩ (.int .i64 (0))).setCell ⟨w.heap.size, 10, none⟩ (.int .i64 (0))).setCell ⟨w.heap.size, 11, none⟩ (.int .i64 (0))) = vf := ⟨_, rfl⟩
  rw [hvf] at hch hBf
  obtain ⟨⟨hzf, r0, r1, r2, r3, r4, r5, r6, r7, r8, r9, r10, r11⟩, _⟩ := box12 hch
  simp only [noD] at r0 r1 r2 r3 r4 r5 r6 r7 r8 r9 r10 r11
  have HBf : Hid (Below w.heap.size w vf) := hBf
  clear hRv hfr hch hBf
  go_enter Try.func72, Try.ntmps72
  go_wp2
  try rw [hvf]
  exact bodyPost_ret (v := .tuple #[dvV noD, .int .i64 3]) (by simp [results, Try.results72, go_sem, hzf, r0, r1, r2, r3, r4, r5, r6, r7, r8, r9, r10, r11, noD]) rfl ⟨rfl, HBf.out⟩
theorem readDevice_any (s : ByteArray) (w : World) (hs : s.size ≤ maxLen) :
    Calls Try.prog 72 #[.string s] w fun e w' => e = .returned (.tuple #[dvV (rdD s), .int .i64 (rdE s)]) ∧ Below w.heap.size w w' := by
  unfold rdD rdE
  by_cases h : s.size < 18
  · rw [if_pos h, if_pos h]; exact readDevice_short s w h
  · rw [if_neg h, if_neg h]; exact readDevice_long s w hs h
end Go.Proofs.Ytonheibhbilhhaa.desc
