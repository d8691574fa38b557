/-
  A writer and its memory.
-/
import Derived.Test.YtahgekjpnmmooaaKWr
import Derived.Test.YtahgekjpnmmooaaZT
namespace Go.Proofs.Ytahgekjpnmmooaa
open Go.RowKit

theorem goodWr : Good OwWr where
  same := fun ⟨vmv, vout, bmv, bout, hv, hmv, hout, hbs, hnd⟩ hs => by
    subst hbs
    exact ⟨vmv, vout, bmv, bout, hv, (goodL (goodP 55) 51).same hmv (fun b hm => hs b (by simp [hm])), (goodL (goodV strs 9) 44).same hout (fun b hm => hs b (by simp [hm])), rfl, hnd⟩
  other := fun u ⟨vmv, vout, bmv, bout, hv, hmv, hout, hbs, hnd⟩ ha => by
    subst hbs
    exact ⟨vmv, vout, bmv, bout, hv, (goodL (goodP 55) 51).other u hmv (fun hm => ha (by simp [hm])), (goodL (goodV strs 9) 44).other u hout (fun hm => ha (by simp [hm])), rfl, hnd⟩
  below := fun ⟨vmv, vout, bmv, bout, hv, hmv, hout, hbs, hnd⟩ k => by
    subst hbs
    exact ⟨vmv, vout, bmv, bout, hv, (goodL (goodP 55) 51).below hmv k, (goodL (goodV strs 9) 44).below hout k, rfl, hnd⟩
  mono := fun ⟨vmv, vout, bmv, bout, hv, hmv, hout, hbs, hnd⟩ k => by
    subst hbs
    exact ⟨vmv, vout, bmv, bout, hv, (goodL (goodP 55) 51).mono hmv k, (goodL (goodV strs 9) 44).mono hout k, rfl, hnd⟩
  lt := fun ⟨vmv, vout, bmv, bout, hv, hmv, hout, hbs, hnd⟩ hm => by
    subst hbs
    simp only [List.mem_append] at hm
    rcases hm with hm | hm
    all_goals first | exact (goodL (goodP 55) 51).lt hmv hm | exact (goodL (goodV strs 9) 44).lt hout hm
  nodup := fun ⟨vmv, vout, bmv, bout, hv, hmv, hout, hbs, hnd⟩ => hnd

end Go.Proofs.Ytahgekjpnmmooaa
