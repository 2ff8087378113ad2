/- plugref: Served, a part of it. (Written by tools/genbuly.py.) -/
import Derived.Test.YtecknicmonhcaaaBulYn
import Derived.Test.YtecknicmonhcaaaBulYa
import Derived.Test.YtecknicmonhcaaaBulYb
import Derived.Test.YtecknicmonhcaaaBulYc
namespace Go.Proofs.Ytecknicmonhcaaa.bulk
open Go Go.RowKit Go.PlainAid Go.Proofs.Ytecknicmonhcaaa.lane Go.Proofs.Ytecknicmonhcaaa.pipe Go.Proofs.Ytecknicmonhcaaa.strike
open Go.Proofs.Ytecknicmonhcaaa.scsi (Dk chkC chk_iff doD doT doC diskRight_any do_none)
set_option linter.unusedVariables false
set_option linter.unusedSimpArgs false
set_option maxRecDepth 100000

theorem served_any (v : Value) (d : Dk) (s t : ByteArray) (w : World) (h : Rts w v d.b) (hs : s.size ≤ maxLen) (ht : t.size ≤ maxLen) :
    Calls Try.prog 20 #[ag (dkl v d.s), .string s, .string t] w fun e w' => SdP d s t w e w' := by
  by_cases h1 : chkC d ≠ 0 ∨ rdC s ≠ 0 ∨ (rdW s).unit ≠ 0
  · exact served_no v d s t w h hs h1
  have hd : chkC d = 0 := Classical.not_not.1 fun q => h1 (.inl q)
  have hz : rdC s = 0 := Classical.not_not.1 fun q => h1 (.inr (.inl q))
  have hu : (rdW s).unit = 0 := Classical.not_not.1 fun q => h1 (.inr (.inr q))
  by_cases hl : (rdW s).len = 0
  · exact served_0 v d s t w h hs ht hd hz hu hl
  · cases hi : (rdW s).inn
    · exact served_2 v d s t w h hs ht hd hz hu hl hi
    · exact served_1 v d s t w h hs ht hd hz hu hl hi
end Go.Proofs.Ytecknicmonhcaaa.bulk
