/- AuditParts: behind any writes, what two roots reach together is what each of them reaches, each once; what is lost is what no root reaches; the store holds just as many. No condition. -/
import Derived.LaidMore
import Derived.Stop.Joined
import Derived.Lib.LaidTab
import Derived.Test.YtlclabbnpjobgaaGreatDoorAp49
import Derived.Test.YtlclabbnpjobgaaGreatDoorCards
import Derived.Test.YtlclabbnpjobgaaGreatDoorTie
import Derived.SevenTiedAt
namespace Go.Proofs.YtlclabbnpjobgaaGreatDoor
variable {W:World}
set_option maxRecDepth 20000
open Go.ChangeShapes Go.WideShapes Go.ChangeAt Go.WideMaps Go.WideElems Go.RowKit
abbrev laid2:List (String×DataW Unit):=Rows.auditPartsRow.laid
abbrev nameOf (i:Nat):String:=(laid2.map (·.1)).getD i Rows.auditPartsRow.func
theorem Yhl:Tryz.prog.globalNamed (nameOf 0)=some 1:=by kernel_rfl
theorem Yfa:Tryz.prog.globalNamed (nameOf 1)=some 2:=by kernel_rfl
theorem Ygc:(Tryz.prog.globals[1]?).map (·.type)=some 248:=by kernel_rfl
theorem Ycz:(Tryz.prog.globals[2]?).map (·.type)=some 258:=by kernel_rfl
theorem Ybi (os:Os) (args:Array Value):laidMetH Tryz.prog laid2 ((World.doorLaid Tryz.prog 400 os).forCall (fun _ _=>0) ⟨#[],args,[]⟩).memory:=
 laidMetH_of_parts3 (fuel:=8) (laidMet_of_run' 8 (by kernel_rfl) (by kernel_rfl)) (by kernel_rfl) (by kernel_rfl)
theorem Ztc:(Rows.laid_rootcellar_sha_first:DataW Unit)=Lib.tabData .u32 hs:=rfl
theorem Zqy:(Rows.laid_rootcellar_sha_rounds:DataW Unit)=Lib.tabData .u32 ks:=rfl
theorem Ybp:Tryz.prog.cellsOf 248=8:=by kernel_rfl
theorem Zxc:Tryz.prog.cellsOf 258=64:=by kernel_rfl
theorem Zxd:Tryz.prog.cellsOf 169=1:=by kernel_rfl
theorem Yec (h:laidMetH Tryz.prog laid2 W):Laid W:=by
 rw [MakeChecks.laidMetH_plain _ _ _ (by kernel_rfl)] at h;obtain ⟨ps,⟨g0,t0,cs0,f0,p0,q0,hg0,ht0,hv0,hd0,⟨g1,t1,cs1,f1,p1,q1,hg1,ht1,hv1,hd1,_,_⟩,_⟩,_,_⟩:=h;obtain rfl:=Option.some.inj (Yhl.symm.trans hg0);obtain rfl:=Option.some.inj (Yfa.symm.trans hg1);obtain rfl:=Option.some.inj (Ygc.symm.trans ht0);obtain rfl:=Option.some.inj (Ycz.symm.trans ht1);rw [Ztc] at hd0;rw [Zqy] at hd1;have e0:=Lib.cells_of_tab Tryz.underlying248 Tryz.underlying169 Zxd Ybp hd0;have e1:=Lib.cells_of_tab Tryz.underlying258 Tryz.underlying169 Zxd Zxc hd1;have c1:∀i,i<64→W.cell? ⟨2,i,none⟩=some (.int .u32 (ks.getD i 0)):=by
  intro i hi;rw [World.var?_cell hg1 hv1 i,← Array.getElem?_toList,e1,List.getElem?_map,List.getElem?_eq_getElem (show i<ks.length from hi)];simp [List.getD,show i<ks.length from hi]
 have c0:∀i,i<8→W.cell? ⟨1,i,none⟩=some (.int .u32 (hs.getD i 0)):=by
  intro i hi;rw [World.var?_cell hg0 hv0 i,← Array.getElem?_toList,e0,List.getElem?_map,List.getElem?_eq_getElem (show i<hs.length from hi)];simp [List.getD,show i<hs.length from hi]
 exact ⟨block_lt_of_cell (c1 0 (by omega)),c1,c0⟩
open Go.ChangeShapes Go.WideShapes Go.ChangeAt Go.RowKit
namespace auditParts
set_option maxRecDepth 100000 in
theorem Yha (os:Os) (started:os.Started) (H:Type) (enc:TypeId×Value→H):
  ReturnsInHanded {} Tryz.checked os 3 .any (fun w args=>(Rows.auditPartsSpec.pre enc Tryz.prog Tryz.f3 [] false w args∧laidMetH Tryz.prog laid2 w)∧sizedMet enc Tryz.prog Tryz.f3 (OpenSpec.ofChange Rows.auditPartsSpec) false w args)
   (Rows.auditPartsSpec.post enc Tryz.prog Tryz.f3 false true false false):=by
 refine returnsInHanded_of_change_and (C:=Tryz.checked) (X:=fun w _=>laidMetH Tryz.prog laid2 w) (fun _ _ _ hh h=>h.of_heap hh) Yjq started (by kernel_rfl) Tryz.func3
  (ChangeSpec.witness_shaped (enc:=enc) (C:=Tryz.checked) (os:=os) (X:=fun w _=>laidMetH Tryz.prog laid2 w) false (World.doorLaid Tryz.prog 400 os) #[.int .i64 0,.slice none 0 0,.int .i64 0,.int .i64 0] 8 rfl (World.shaped_of_RefB (by kernel_rfl) (by kernel_rfl)) (by kernel_rfl) (by kernel_rfl) (by kernel_rfl) (Ybi os _)) ?_
 intro W base args ds gs before hval0 hW hcnd hsz0 hL _;have hval:∀(j:Nat) t v,Tryz.f3.params[j]?=some t→args[j]?=some v→Value.okWide Tryz.prog W .any base t v:=hval0;have hW':=hW;obtain ⟨p,q,hA0,hV,rfl,hfz,hnd⟩:=hW;have hA:DataW.TrodAll enc Tryz.prog W 0 (fun _=>true) true Tryz.f3.params.toList args.toList ds p:=hA0;have hsz:(DataW.weightsEach Tryz.prog (Tryz.f3.params.toList++Rows.auditPartsSpec.plain.varTypes Tryz.prog) (ds++gs)).all (· ≤reachBytes)=true:=hsz0;rw [Tryz.params3] at hA hval hsz;obtain ⟨v0,vs0,d0,ds0,p0,q0,hargs,rfl,rfl,h0,r0⟩:=trodAll_cons hA;obtain ⟨v1,vs1,d1,ds1,p1,q1,rfl,rfl,rfl,h1,r1⟩:=trodAll_cons r0;obtain ⟨v2,vs2,d2,ds2,p2,q2,rfl,rfl,rfl,h2,r2⟩:=trodAll_cons r1;obtain ⟨v3,vs3,d3,ds3,p3,q3,rfl,rfl,rfl,h3,r3⟩:=trodAll_cons r2;obtain ⟨rfl,rfl,rfl⟩:=trodAll_nil r3;obtain rfl:args= #[v0,v1,v2,v3]:=by cases args;simp_all
 obtain ⟨rfl,rfl⟩:=trodVars_none hV;have lt0:∀x∈p0,x.block<W.heap.size:=by obtain ⟨m,hm⟩:=h0;exact DataW.trod_lt m _ _ _ hm
 have lt1:∀x∈p1,x.block<W.heap.size:=by obtain ⟨m,hm⟩:=h1;exact DataW.trod_lt m _ _ _ hm
 have lt2:∀x∈p2,x.block<W.heap.size:=by obtain ⟨m,hm⟩:=h2;exact DataW.trod_lt m _ _ _ hm
 have lt3:∀x∈p3,x.block<W.heap.size:=by obtain ⟨m,hm⟩:=h3;exact DataW.trod_lt m _ _ _ hm
 obtain ⟨x0,rfl,_,_,_⟩:=open_int Tryz.underlying3 (hval 0 3 v0 rfl rfl) h0;obtain ⟨qs,hq⟩:=Zxs (hval 1 22 v1 rfl rfl) h1 hsz 1 rfl rfl;obtain ⟨x2,rfl,_,_,_⟩:=open_int Tryz.underlying3 (hval 2 3 v2 rfl rfl) h2;obtain ⟨x3,rfl,_,_,_⟩:=open_int Tryz.underlying3 (hval 3 3 v3 rfl rfl) h3;clear hA0 hval0;refine (Ziq x0 v1 qs x2 x3 W hq (Yec hL)).mono fun e W' ⟨he,bel⟩=>?_
 subst he;have t0:=Below.trod Zko (by kernel_rfl) (of_decide_eq_true (by kernel_rfl)) h0 bel lt0;have t1:=Below.trod Zko (by kernel_rfl) (of_decide_eq_true (by kernel_rfl)) h1 bel lt1;have t2:=Below.trod Zko (by kernel_rfl) (of_decide_eq_true (by kernel_rfl)) h2 bel lt2;have t3:=Below.trod Zko (by kernel_rfl) (of_decide_eq_true (by kernel_rfl)) h3 bel lt3;exact ⟨_,rfl,_,_,_,[],_,[],hW',trodAll_mk1 (shut_bool Tryz.underlying4 _),(trodAll_cons_mk t0 (trodAll_cons_mk t1 (trodAll_cons_mk t2 (trodAll_cons_mk t3 trodAll_mk0)))),rfl,bel.frame _,fun h=>by cases h⟩
theorem Yjw {a b:Bool} (h:a=true) (k:b=true):(a && b)=true:=by rw [h,k];rfl
set_option maxHeartbeats 16000000 in
theorem Yjc:joinedFacts Tryz.pinned.checked.prog 3 Tryz.f3 Rows.auditPartsSpec Rows.auditPartsRow=true:=by
 unfold joinedFacts
 repeat' with_reducible refine Yjw ?_ ?_
 all_goals (as_aux_lemma=>kernel_rfl)
theorem over:Rows.AuditPartsSaid:=
 OpenClaim.holds_of_wide 3 Tryz.f3 rfl rfl rfl rfl rfl rfl rfl ⟨rfl,rfl,rfl,rfl,rfl⟩ rfl rfl rfl rfl rfl (by as_aux_lemma=>kernel_rfl) Tryz.func3 Yjc
  (of_decide_eq_true (by as_aux_lemma=>kernel_rfl)) (by as_aux_lemma=>(unfold Func.isWrapper;first | (rw [if_pos (by decide+kernel)];kernel_rfl) | (rw [if_neg (by decide+kernel)];exact ⟨rfl,rfl⟩)))
  (fun os started H enc _=>Yha os started H enc)
end auditParts
theorem auditParts_holds:Rows.AuditPartsCardSaid:=
 Claim7.holds_tied_plain_at .later [] [.data, .data] true (true, "e8137908165a77e4eb2ec0e4b691e5267e4643a3ba07fc4b164986987970c718") false
  auditParts.over (fun _ h=>by cases h) (by kernel_rfl) (fun _ h=>by cases h) auditParts_row_tie rfl ⟨rfl,rfl⟩ (by kernel_rfl) rfl
  (fun f fn hf hfn=>by
   obtain rfl:f=3:=Option.some.inj ((show Tryz.prog.funcNamed Rows.auditPartsRow.func=some 3 by kernel_rfl).symm.trans hf) |>.symm
   obtain rfl:fn=Tryz.f3:=(Option.some.inj (Tryz.func3.symm.trans hfn)).symm;exact ⟨by kernel_rfl,fun j t ht=>by
    rw [Tryz.params3] at ht;have hm:t∈[3,22,3,3]:=by simpa using Array.mem_of_getElem? ht
    have hall:([3,22,3,3].all fun u=>!Tryz.prog.wantsStandIn u)=true:=by kernel_rfl
    exact (show Tryz.prog.wantsStandIn t=false by simpa using List.all_eq_true.1 hall t hm)⟩)
  (by kernel_rfl)
end Go.Proofs.YtlclabbnpjobgaaGreatDoor
#print axioms Go.Proofs.YtlclabbnpjobgaaGreatDoor.auditParts_holds
