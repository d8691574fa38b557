/-
  A writer and its memory.
-/
import Derived.Test.YtlbmbgnkinfibaaKWr
import Derived.Test.YtlbmbgnkinfibaaZT
namespace Go.Proofs.Ytlbmbgnkinfibaa
open Go.RowKit

theorem goodWr : Good OwWr where
  same := fun ⟨vmv, vout, bmv, bout, hv, hmv, hout, hbs, hnd⟩ hs => by
    subst hbs
    exact ⟨vmv, vout, bmv, bout, hv, (goodL (goodP 73) 69).same hmv (fun b hm => hs b (by simp [hm])), (goodL (goodV strs 9) 46).same hout (fun b hm => hs b (by simp [hm])), rfl, hnd⟩
  other := fun u ⟨vmv, vout, bmv, bout, hv, hmv, hout, hbs, hnd⟩ ha => by
    subst hbs
    exact ⟨vmv, vout, bmv, bout, hv, (goodL (goodP 73) 69).other u hmv (fun hm => ha (by simp [hm])), (goodL (goodV strs 9) 46).other u hout (fun hm => ha (by simp [hm])), rfl, hnd⟩
  below := fun ⟨vmv, vout, bmv, bout, hv, hmv, hout, hbs, hnd⟩ k => by
    subst hbs
    exact ⟨vmv, vout, bmv, bout, hv, (goodL (goodP 73) 69).below hmv k, (goodL (goodV strs 9) 46).below hout k, rfl, hnd⟩
  mono := fun ⟨vmv, vout, bmv, bout, hv, hmv, hout, hbs, hnd⟩ k => by
    subst hbs
    exact ⟨vmv, vout, bmv, bout, hv, (goodL (goodP 73) 69).mono hmv k, (goodL (goodV strs 9) 46).mono hout k, rfl, hnd⟩
  lt := fun ⟨vmv, vout, bmv, bout, hv, hmv, hout, hbs, hnd⟩ hm => by
    subst hbs
    simp only [List.mem_append] at hm
    rcases hm with hm | hm
    all_goals first | exact (goodL (goodP 73) 69).lt hmv hm | exact (goodL (goodV strs 9) 46).lt hout hm
  nodup := fun ⟨vmv, vout, bmv, bout, hv, hmv, hout, hbs, hnd⟩ => hnd

end Go.Proofs.Ytlbmbgnkinfibaa
