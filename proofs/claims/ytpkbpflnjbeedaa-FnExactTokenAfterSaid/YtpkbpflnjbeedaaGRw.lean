/-
  A row and its memory.
-/
import Derived.Test.YtpkbpflnjbeedaaKRw
import Derived.Test.YtpkbpflnjbeedaaZT
namespace Go.Proofs.Ytpkbpflnjbeedaa
open Go.RowKit

theorem goodRw : Good OwRw where
  same := fun ⟨vmv, vcuts, bmv, bcuts, hv, hmv, hcuts, hbs, hnd⟩ hs => by
    subst hbs
    exact ⟨vmv, vcuts, bmv, bcuts, hv, (goodL (goodP 82) 97).same hmv (fun b hm => hs b (by simp [hm])), (goodV ints 2).same hcuts (fun b hm => hs b (by simp [hm])), rfl, hnd⟩
  other := fun u ⟨vmv, vcuts, bmv, bcuts, hv, hmv, hcuts, hbs, hnd⟩ ha => by
    subst hbs
    exact ⟨vmv, vcuts, bmv, bcuts, hv, (goodL (goodP 82) 97).other u hmv (fun hm => ha (by simp [hm])), (goodV ints 2).other u hcuts (fun hm => ha (by simp [hm])), rfl, hnd⟩
  below := fun ⟨vmv, vcuts, bmv, bcuts, hv, hmv, hcuts, hbs, hnd⟩ k => by
    subst hbs
    exact ⟨vmv, vcuts, bmv, bcuts, hv, (goodL (goodP 82) 97).below hmv k, (goodV ints 2).below hcuts k, rfl, hnd⟩
  mono := fun ⟨vmv, vcuts, bmv, bcuts, hv, hmv, hcuts, hbs, hnd⟩ k => by
    subst hbs
    exact ⟨vmv, vcuts, bmv, bcuts, hv, (goodL (goodP 82) 97).mono hmv k, (goodV ints 2).mono hcuts k, rfl, hnd⟩
  lt := fun ⟨vmv, vcuts, bmv, bcuts, hv, hmv, hcuts, hbs, hnd⟩ hm => by
    subst hbs
    simp only [List.mem_append] at hm
    rcases hm with hm | hm
    all_goals first | exact (goodL (goodP 82) 97).lt hmv hm | exact (goodV ints 2).lt hcuts hm
  nodup := fun ⟨vmv, vcuts, bmv, bcuts, hv, hmv, hcuts, hbs, hnd⟩ => hnd

theorem rwMax {r : RwData} (h : RwSmall r) : r.wd.size ≤ maxLen := by have := h.2.1; unfold maxLen; omega
end Go.Proofs.Ytpkbpflnjbeedaa
