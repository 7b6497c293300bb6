/- DictBack holds, and its card: whatever calls made a dictionary, its current root is held and stands for what it stood for after any further calls that end with going back to it. No condition beside memory's own bound, but that sha's two tables begin as the program's text lays them, which the card ties. -/
import Derived.Test.YtdjpigfibafokaaGreatDoorDz01
import Derived.Test.YtdjpigfibafokaaGreatDoorRows
import Derived.Test.YtdjpigfibafokaaGreatDoorDz09
import Derived.ProofKit
import Derived.LaidMore
import Derived.OpenShut
import Derived.Stop.Joined
import Derived.Lib.LaidTab
import Derived.Test.YtdjpigfibafokaaGreatDoorDz43
import Derived.Test.YtdjpigfibafokaaGreatDoorDz38
import Derived.Test.YtdjpigfibafokaaGreatDoorDz37
import Derived.Test.YtdjpigfibafokaaGreatDoorCards
import Derived.Test.YtdjpigfibafokaaGreatDoorTie
import Derived.ChangeOld
import Derived.Below
import Derived.SevenTiedAt
namespace Go.Proofs.YtdjpigfibafokaaGreatDoor
variable {W:World}
set_option maxRecDepth 20000
open Go.ChangeShapes Go.WideShapes Go.ChangeAt Go.WideMaps Go.WideElems Go.RowKit

abbrev laid2:List (String×DataW Unit):=Rows.dictScriptRow.laid
abbrev nameOf (i:Nat):String:=(laid2.map (·.1)).getD i Rows.dictScriptRow.func

theorem gFirst:Tryz.prog.globalNamed (nameOf 0)=some 0:=by kernel_rfl
theorem gRounds:Tryz.prog.globalNamed (nameOf 1)=some 1:=by kernel_rfl
theorem tFirst:(Tryz.prog.globals[0]?).map (·.type)=some 315:=by kernel_rfl
theorem tRounds:(Tryz.prog.globals[1]?).map (·.type)=some 353:=by kernel_rfl

theorem door_met (os:Os) (args:Array Value):laidMetH Tryz.prog laid2 ((World.doorLaid Tryz.prog 400 os).forCall (fun _ _=>0) ⟨#[],args,[]⟩).memory:=
  laidMetH_of_parts3 (fuel:=8) (laidMet_of_run' 8 (by kernel_rfl) (by kernel_rfl)) (by kernel_rfl) (by kernel_rfl)

theorem tab_first:(Rows.laid_rootcellar_sha_first:DataW Unit)=Lib.tabData .u32 hs:=rfl
theorem tab_rounds:(Rows.laid_rootcellar_sha_rounds:DataW Unit)=Lib.tabData .u32 ks:=rfl
theorem cells_w8:Tryz.prog.cellsOf 315=8:=by kernel_rfl
theorem cells_w64:Tryz.prog.cellsOf 353=64:=by kernel_rfl
theorem cells_w:Tryz.prog.cellsOf 314=1:=by kernel_rfl

theorem of_laid (h:laidMetH Tryz.prog laid2 W):Laid W:=by
  rw [MakeChecks.laidMetH_plain _ _ _ (by kernel_rfl)] at h;obtain ⟨ps,⟨g0,t0,cs0,f0,p0,q0,hg0,ht0,hv0,hd0,⟨g1,t1,cs1,f1,p1,q1,hg1,ht1,hv1,hd1,_,_⟩,_⟩,_,_⟩:=h;obtain rfl:=Option.some.inj (gFirst.symm.trans hg0);obtain rfl:=Option.some.inj (gRounds.symm.trans hg1);obtain rfl:=Option.some.inj (tFirst.symm.trans ht0);obtain rfl:=Option.some.inj (tRounds.symm.trans ht1);rw [tab_first] at hd0;rw [tab_rounds] at hd1;have e0:=Lib.cells_of_tab Tryz.underlying315 Tryz.underlying314 cells_w cells_w8 hd0;have e1:=Lib.cells_of_tab Tryz.underlying353 Tryz.underlying314 cells_w cells_w64 hd1;have c1:∀i,i<64→W.cell? ⟨1,i,none⟩=some (.int .u32 (ks.getD i 0)):=by
    intro i hi;rw [World.var?_cell hg1 hv1 i,← Array.getElem?_toList,e1,List.getElem?_map,List.getElem?_eq_getElem (show i<ks.length from hi)];simp [List.getD,show i<ks.length from hi]
  have c0:∀i,i<8→W.cell? ⟨0,i,none⟩=some (.int .u32 (hs.getD i 0)):=by
    intro i hi;rw [World.var?_cell hg0 hv0 i,← Array.getElem?_toList,e0,List.getElem?_map,List.getElem?_eq_getElem (show i<hs.length from hi)];simp [List.getD,show i<hs.length from hi]
  exact ⟨block_lt_of_cell (c1 0 (by omega)),c1,c0⟩

end Go.Proofs.YtdjpigfibafokaaGreatDoor

namespace Go.Proofs.YtdjpigfibafokaaGreatDoor
variable {W:World}
set_option maxRecDepth 20000
open Go.ChangeShapes Go.WideShapes Go.ChangeAt Go.RowKit

namespace dictBack
set_option maxRecDepth 100000 in
theorem lifted (os:Os) (started:os.Started) (H:Type) (enc:TypeId×Value→H):
    ReturnsInHanded {} Tryz.checked os 5 .any (fun w args=>(Rows.dictBackSpec.pre enc Tryz.prog Tryz.f5 [] false w args∧laidMetH Tryz.prog laid2 w)∧sizedMet enc Tryz.prog Tryz.f5 (OpenSpec.ofChange Rows.dictBackSpec) false w args)
      (Rows.dictBackSpec.post enc Tryz.prog Tryz.f5 false true false false):=by
  refine returnsInHanded_of_change_and (C:=Tryz.checked) (X:=fun w _=>laidMetH Tryz.prog laid2 w) (fun _ _ _ hh h=>h.of_heap hh) ownK started (by kernel_rfl) Tryz.func5
    (ChangeSpec.witness_shaped (enc:=enc) (C:=Tryz.checked) (os:=os) (X:=fun w _=>laidMetH Tryz.prog laid2 w) false (World.doorLaid Tryz.prog 400 os) #[.slice none 0 0,.agg (B (List.replicate 32 0)),.slice none 0 0,.slice none 0 0] 8 rfl (World.shaped_of_RefB (by kernel_rfl) (by kernel_rfl)) (by kernel_rfl) (by kernel_rfl) (by kernel_rfl) (door_met os _)) ?_
  intro W base args ds gs before hval0 hW hcnd hsz0 hL _;have hval:∀(j:Nat) t v,Tryz.f5.params[j]?=some t→args[j]?=some v→Value.okWide Tryz.prog W .any base t v:=hval0;have hW':=hW;obtain ⟨p,q,hA0,hV,rfl,hfz,hnd⟩:=hW;have hA:DataW.TrodAll enc Tryz.prog W 0 (fun _=>true) true Tryz.f5.params.toList args.toList ds p:=hA0;have hsz:(DataW.weightsEach Tryz.prog (Tryz.f5.params.toList++Rows.dictBackSpec.plain.varTypes Tryz.prog) (ds++gs)).all (· ≤reachBytes)=true:=hsz0;rw [Tryz.params5] at hA hval hsz;obtain ⟨v0,vs0,d0,ds0,p0,q0,hargs,rfl,rfl,h0,r0⟩:=trodAll_cons hA;obtain ⟨v1,vs1,d1,ds1,p1,q1,rfl,rfl,rfl,h1,r1⟩:=trodAll_cons r0;obtain ⟨v2,vs2,d2,ds2,p2,q2,rfl,rfl,rfl,h2,r2⟩:=trodAll_cons r1;obtain ⟨v3,vs3,d3,ds3,p3,q3,rfl,rfl,rfl,h3,r3⟩:=trodAll_cons r2;obtain ⟨rfl,rfl,rfl⟩:=trodAll_nil r3;obtain rfl:args= #[v0,v1,v2,v3]:=by cases args;simp_all
  obtain ⟨rfl,rfl⟩:=trodVars_none hV;have lt0:∀x∈p0,x.block<W.heap.size:=by obtain ⟨m,hm⟩:=h0;exact DataW.trod_lt m _ _ _ hm
  have lt1:∀x∈p1,x.block<W.heap.size:=by obtain ⟨m,hm⟩:=h1;exact DataW.trod_lt m _ _ _ hm
  have lt2:∀x∈p2,x.block<W.heap.size:=by obtain ⟨m,hm⟩:=h2;exact DataW.trod_lt m _ _ _ hm
  have lt3:∀x∈p3,x.block<W.heap.size:=by obtain ⟨m,hm⟩:=h3;exact DataW.trod_lt m _ _ _ hm
  obtain ⟨sl,hs,hsl⟩:=arg_acts15 (hval 0 22 v0 rfl rfl) h0 hsz 0 rfl rfl;obtain ⟨key,hkl,rfl,hkb⟩:=arg_path (hval 1 63 v1 rfl rfl) h1;obtain ⟨bs,hr,hl,_⟩:=arg_bytes (hval 2 30 v2 rfl rfl) h2 hsz 2 rfl rfl;obtain ⟨ml,hm,hml⟩:=arg_acts15 (hval 3 22 v3 rfl rfl) h3 hsz 3 rfl rfl;clear hA0 hval0;refine (dictBack_walk v0 v3 v2 sl ml key bs W hs hm ⟨hkl,hkb⟩ hr hsl hml (of_laid hL)).mono fun e W' ⟨he,bel⟩=>?_
  subst he;have t0:=Below.trod laidOut (by kernel_rfl) (of_decide_eq_true (by kernel_rfl)) h0 bel lt0;have t1:=Below.trod laidOut (by kernel_rfl) (of_decide_eq_true (by kernel_rfl)) h1 bel lt1;have t2:=Below.trod laidOut (by kernel_rfl) (of_decide_eq_true (by kernel_rfl)) h2 bel lt2;have t3:=Below.trod laidOut (by kernel_rfl) (of_decide_eq_true (by kernel_rfl)) h3 bel lt3;exact ⟨_,rfl,_,_,_,[],_,[],hW',trodAll_mk1 (shut_bool Tryz.underlying4 _),(trodAll_cons_mk t0 (trodAll_cons_mk t1 (trodAll_cons_mk t2 (trodAll_cons_mk t3 trodAll_mk0)))),rfl,bel.frame _,fun h=>by cases h⟩

theorem band {a b:Bool} (h:a=true) (k:b=true):(a && b)=true:=by rw [h,k];rfl
set_option maxHeartbeats 16000000 in
theorem facts:joinedFacts Tryz.pinned.checked.prog 5 Tryz.f5 Rows.dictBackSpec Rows.dictBackRow=true:=by
  unfold joinedFacts
  repeat' with_reducible refine band ?_ ?_
  all_goals (as_aux_lemma=>kernel_rfl)

theorem over:Rows.DictBackSaid:=
  OpenClaim.holds_of_wide 5 Tryz.f5 rfl rfl rfl rfl rfl rfl rfl ⟨rfl,rfl,rfl,rfl,rfl⟩ rfl rfl rfl rfl rfl (by as_aux_lemma=>kernel_rfl) Tryz.func5 facts
    (of_decide_eq_true (by as_aux_lemma=>kernel_rfl)) (by as_aux_lemma=>(unfold Func.isWrapper;first | (rw [if_pos (by decide+kernel)];kernel_rfl) | (rw [if_neg (by decide+kernel)];exact ⟨rfl,rfl⟩)))
    (fun os started H enc _=>lifted os started H enc)
end dictBack

theorem dictBack_holds:Rows.DictBackCardSaid:=
  Claim7.holds_tied_plain_at .later [] [.data, .data] true (true, "84c436328c38df3adafe77fe21d908d5080a79b89f9a1681bc8b2875ad5bf10f") false
    dictBack.over (fun _ h=>by cases h) (by kernel_rfl) (fun _ h=>by cases h) dictBack_row_tie rfl ⟨rfl,rfl⟩ (by kernel_rfl) rfl
    (fun f fn hf hfn=>by
      obtain rfl:f=5:=Option.some.inj ((show Tryz.prog.funcNamed Rows.dictBackRow.func=some 5 by kernel_rfl).symm.trans hf) |>.symm
      obtain rfl:fn=Tryz.f5:=(Option.some.inj (Tryz.func5.symm.trans hfn)).symm;exact ⟨by kernel_rfl,fun j t ht=>by
        rw [Tryz.params5] at ht;have hm:t∈[22,63,30,22]:=by simpa using Array.mem_of_getElem? ht
        have hall:([22,63,30,22].all fun u=>!Tryz.prog.wantsStandIn u)=true:=by kernel_rfl
        exact (show Tryz.prog.wantsStandIn t=false by simpa using List.all_eq_true.1 hall t hm)⟩)
    (by kernel_rfl)
end Go.Proofs.YtdjpigfibafokaaGreatDoor
#print axioms Go.Proofs.YtdjpigfibafokaaGreatDoor.dictBack_holds
