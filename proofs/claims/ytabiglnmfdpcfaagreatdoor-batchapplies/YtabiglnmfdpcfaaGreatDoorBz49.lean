/- BatchApplies: of any map's tree and any writes the tree that comes of the batch, or the error: its digest, its entries, how many nodes are new, beside a version that is held and one that is not; what is refused changes nothing. No condition. -/
import Derived.Test.YtabiglnmfdpcfaaGreatDoorBz01
import Derived.Test.YtabiglnmfdpcfaaGreatDoorBz48
import Derived.Test.YtabiglnmfdpcfaaGreatDoorBz22
import Derived.Deep.Strs
import Derived.Test.YtabiglnmfdpcfaaGreatDoorRows
import Derived.Test.YtabiglnmfdpcfaaGreatDoorBz09
import Derived.ProofKit
import Derived.LaidMore
import Derived.OpenShut
import Derived.Stop.Joined
import Derived.Lib.LaidTab
import Derived.Test.YtabiglnmfdpcfaaGreatDoorBz47
import Derived.Test.YtabiglnmfdpcfaaGreatDoorCards
import Derived.Test.YtabiglnmfdpcfaaGreatDoorTie
import Derived.ChangeOld
import Derived.Below
import Derived.SevenTiedAt
namespace Go.Proofs.YtabiglnmfdpcfaaGreatDoor
variable {W:World}
variable {base fuel:Nat}
variable {v:Value}
set_option maxRecDepth 20000
open Go.ChangeShapes Go.WideShapes Go.ChangeAt Go.RowKit

theorem cells_write:Tryz.prog.cellsOf 37=34:=by kernel_rfl
theorem cells_bool1:Tryz.prog.cellsOf 4=1:=by kernel_rfl
theorem bytesOf_write:Tryz.prog.bytesOf 37=64:=by kernel_rfl

theorem trod_write {H:Type} {enc:TypeId×Value→H} {cs:List Value} {x:DataW H×List MemPlace} (h:DataW.trod enc Tryz.prog W 0 (fun _=>true) true fuel 37 cs=some x)
    (hw:∀m∈x.1.weights Tryz.prog 37,m≤reachBytes):
    ∃e:Wt,cs=encW e∧WtOk e∧Reads W e.v e.b∧e.b.length≤140737488355328-4096:=by
  have hF:∃f0 f1 f2:Field,Tryz.prog.underlying 37=some (.struct #[f0,f1,f2])∧(f0.type=34∧f0.offset=0)∧(f1.type=4∧f1.offset=32)∧(f2.type=35∧f2.offset=33):=⟨_,_,_,Tryz.underlying37,⟨rfl,rfl⟩,⟨rfl,rfl⟩,⟨rfl,rfl⟩⟩;obtain ⟨f0,f1,f2,hu,⟨t0,o0⟩,⟨t1,o1⟩,⟨t2,o2⟩⟩:=hF;obtain ⟨y0,y1,y2,n,hx,hl,e0,e1,e2⟩:=Go.Deep.trod_struct3 hu h;rw [t0,o0,cells_path] at e0;rw [t1,o1,cells_bool1] at e1;rw [t2,o2,cells_slc] at e2;rw [cells_write] at hl;obtain ⟨K,lk,ek,bk⟩:=trod_u8s Tryz.underlying34 cells_path e0;obtain ⟨g,hg,_⟩:=DataW.trod_bool Tryz.underlying4 e1;obtain ⟨u,hu1⟩:∃u,(cs.drop 33).take 1=[u]:=by
    match hd:cs.drop 33,(show (cs.drop 33).length=1 by simp [hl]) with
    | [u],_=>exact ⟨u,rfl⟩
  rw [hu1] at e2;have hsz2:(DataW.weightsEach Tryz.prog [34,4,35] [y0.1,y1.1,y2.1]).all (· ≤reachBytes)=true:=by
    rw [List.all_eq_true];intro m hm;rw [decide_eq_true_iff];refine hw m ?_;rw [hx];simp only [DataW.weights,hu];rw [show (#[f0,f1,f2]:Array Field).toList.map (·.type)=[34,4,35] by simp [t0,t1,t2]];exact hm
  obtain ⟨zs,r1,l1⟩:=trod_sized (d:=y2.1) (p:=y2.2) e2 hsz2 2 rfl rfl;have hb:Bytes zs:=by obtain ⟨_,_,_,_,_,hb,_⟩:=r1;exact hb
  have hv:∃a c,u=.slice a zs.length c:=by obtain ⟨a,c,e,_⟩:=r1;exact ⟨a,c,e⟩
  refine ⟨⟨K,g,zs,u⟩,?_,⟨⟨lk,bk⟩,hb,hv⟩,r1,l1⟩;have s2:(cs.drop 33).take 1=cs.drop 33:=List.take_of_length_le (by simp [hl]);have s1:cs.drop 32=(cs.drop 32).take 1++cs.drop 33:=by
    conv=>lhs;rw [← List.take_append_drop 1 (cs.drop 32)]
    rw [List.drop_drop]
  have s0:cs=cs.take 32++cs.drop 32:=(List.take_append_drop 32 cs).symm;have e3:cs.take 32=K.map (Value.int .u8):=by simpa using ek
  rw [s0,s1,hg,← s2,hu1,e3];rfl

theorem arg_writes {H:Type} {enc:TypeId×Value→H} {d:DataW H} {p:List MemPlace} (hv:Value.okWide Tryz.prog W .any base 23 v)
    (h:DataW.Trod enc Tryz.prog W 0 (fun _=>true) true 23 v d p) {ts:List TypeId} {ds:List (DataW H)} (hsz:(DataW.weightsEach Tryz.prog ts ds).all (· ≤reachBytes)=true) (j:Nat) (ht:ts[j]?=some 23) (hd:ds[j]?=some d):
    ∃ls,WrAt W v ls∧ls.length * 64≤140737488355328-4096∧∀x∈ls,x.b.length≤140737488355328-4096:=by
  obtain ⟨a,len,cap,rfl⟩:=okWide_slice Tryz.underlying23 hv;obtain ⟨fuel,hf⟩:=h;rcases Go.Deep.open_slice Tryz.underlying23 hf with ⟨hcs,hx⟩ | ⟨x,l,c,m,n,D,Pl,hcs,_,hl,hm,hmm,hx,hcell⟩
  · simp [Value.cells] at hcs
    obtain ⟨rfl,rfl,rfl⟩:=hcs;exact ⟨[],⟨none,0,rfl,by simp,fun _=>rfl,fun h=>by simp at h,fun i hi=>by simp at hi,fun i hi=>by simp at hi⟩,by simp,fun i hi=>by simp at hi⟩
  · simp [Value.cells] at hcs
    obtain ⟨rfl,rfl,rfl⟩:=hcs;simp at hmm;simp only [Prod.mk.injEq] at hx;have hs:=sized_slice hsz ht (by rw [hd,hx.1]) Tryz.underlying23;rw [bytesOf_write] at hs;simp only [List.length_map,List.length_range,reachBytes] at hs;have hwt:∀i,i<len→∀q∈(D i).weights Tryz.prog 37,q≤reachBytes:=by
      intro i hi q hq;have h1:=List.all_eq_true.1 hsz q (DataW.weights_mem_each ht hd q (by
        rw [hx.1];simp only [DataW.weights,Tryz.underlying23,List.mem_cons,List.mem_append];exact .inr (.inl (weights_all hq _ (List.mem_map.2 ⟨i,List.mem_range.2 hi,rfl⟩)))))
      simpa using h1
    have each:∀i,i<len→∃q:Wt,(∀k u,(encW q)[k]?=some u→W.cell? (x.add (i * 34+k))=some u)∧WtOk q∧Reads W q.v q.b∧q.b.length≤140737488355328-4096:=by
      intro i hi;obtain ⟨cs',h1,h2⟩:=hcell i (by omega);rw [cells_write] at h1;obtain ⟨_,hlen,hc⟩:=World.cells?_some h1;obtain ⟨e,rfl,hk,hr,hl2⟩:=trod_write h2 (hwt i hi);refine ⟨e,fun k w hw=>?_,hk,hr,hl2⟩;have hk2:=(List.getElem?_eq_some_iff.1 hw).1;have hk3:k<34:=by rw [← hlen];exact hk2
      have h3:=hc k hk3;rw [Go.Deep.add_add] at h3;rw [h3];exact hw
    obtain ⟨q,hq⟩:=Go.Deep.choose_lt each;have hget:∀i,i<len→((List.range len).map q)[i]! =q i:=fun i hi=>by rw [getElem!_pos _ i (by simpa using hi)];simp
    have hmem:∀z∈(List.range len).map q,∃i,i<len∧q i=z:=fun z hz=>by
      obtain ⟨i,hi,e⟩:=List.mem_map.1 hz;exact ⟨i,List.mem_range.1 hi,e⟩
    refine ⟨(List.range len).map q,⟨some x,cap,by simp,by simp;omega,fun e=>(by cases e),fun hp=>?_,fun z hz=>?_,fun z hz=>?_⟩,by simp;omega,fun z hz=>?_⟩
    · simp only [List.length_map,List.length_range] at hp
      obtain ⟨b,off,spot⟩:=x;have hspot:spot=none:=by
        have hlen:=(hq 0 hp).2.1.len;have:=World.cell?_spot ((hq 0 hp).1 0 _ (List.getElem?_eq_getElem (by omega)));simpa [Addr.add] using this
      subst hspot;refine ⟨b,off,rfl,fun i hi k u hu=>?_⟩;simp only [List.length_map,List.length_range] at hi;rw [hget i hi] at hu;have:=(hq i hi).1 k u hu;rw [Addr.add_lit] at this;rw [Nat.add_assoc];exact this
    · obtain ⟨i,hi,rfl⟩:=hmem z hz
      exact (hq i hi).2.1
    · obtain ⟨i,hi,rfl⟩:=hmem z hz
      exact (hq i hi).2.2.1
    · obtain ⟨i,hi,rfl⟩:=hmem z hz
      exact (hq i hi).2.2.2

end Go.Proofs.YtabiglnmfdpcfaaGreatDoor

namespace Go.Proofs.YtabiglnmfdpcfaaGreatDoor
variable {W:World}
variable {base fuel:Nat}
variable {v:Value}
set_option maxRecDepth 20000
open Go.ChangeShapes Go.WideShapes Go.ChangeAt Go.WideMaps Go.WideElems Go.RowKit

abbrev laid2:List (String×DataW Unit):=Rows.batchAppliesRow.laid
abbrev nameOf (i:Nat):String:=(laid2.map (·.1)).getD i Rows.batchAppliesRow.func

theorem gFirst:Tryz.prog.globalNamed (nameOf 0)=some 0:=by kernel_rfl
theorem gRounds:Tryz.prog.globalNamed (nameOf 1)=some 1:=by kernel_rfl
theorem tFirst:(Tryz.prog.globals[0]?).map (·.type)=some 195:=by kernel_rfl
theorem tRounds:(Tryz.prog.globals[1]?).map (·.type)=some 214:=by kernel_rfl

theorem door_met (os:Os) (args:Array Value):laidMetH Tryz.prog laid2 ((World.doorLaid Tryz.prog 400 os).forCall (fun _ _=>0) ⟨#[],args,[]⟩).memory:=
  laidMetH_of_parts3 (fuel:=8) (laidMet_of_run' 8 (by kernel_rfl) (by kernel_rfl)) (by kernel_rfl) (by kernel_rfl)

theorem tab_first:(Rows.laid_rootcellar_sha_first:DataW Unit)=Lib.tabData .u32 hs:=rfl
theorem tab_rounds:(Rows.laid_rootcellar_sha_rounds:DataW Unit)=Lib.tabData .u32 ks:=rfl
theorem cells_w8:Tryz.prog.cellsOf 195=8:=by kernel_rfl
theorem cells_w64:Tryz.prog.cellsOf 214=64:=by kernel_rfl
theorem cells_w:Tryz.prog.cellsOf 194=1:=by kernel_rfl

theorem of_laid (h:laidMetH Tryz.prog laid2 W):Laid W:=by
  rw [MakeChecks.laidMetH_plain _ _ _ (by kernel_rfl)] at h;obtain ⟨ps,⟨g0,t0,cs0,f0,p0,q0,hg0,ht0,hv0,hd0,⟨g1,t1,cs1,f1,p1,q1,hg1,ht1,hv1,hd1,_,_⟩,_⟩,_,_⟩:=h;obtain rfl:=Option.some.inj (gFirst.symm.trans hg0);obtain rfl:=Option.some.inj (gRounds.symm.trans hg1);obtain rfl:=Option.some.inj (tFirst.symm.trans ht0);obtain rfl:=Option.some.inj (tRounds.symm.trans ht1);rw [tab_first] at hd0;rw [tab_rounds] at hd1;have e0:=Lib.cells_of_tab Tryz.underlying195 Tryz.underlying194 cells_w cells_w8 hd0;have e1:=Lib.cells_of_tab Tryz.underlying214 Tryz.underlying194 cells_w cells_w64 hd1;have c1:∀i,i<64→W.cell? ⟨1,i,none⟩=some (.int .u32 (ks.getD i 0)):=by
    intro i hi;rw [World.var?_cell hg1 hv1 i,← Array.getElem?_toList,e1,List.getElem?_map,List.getElem?_eq_getElem (show i<ks.length from hi)];simp [List.getD,show i<ks.length from hi]
  have c0:∀i,i<8→W.cell? ⟨0,i,none⟩=some (.int .u32 (hs.getD i 0)):=by
    intro i hi;rw [World.var?_cell hg0 hv0 i,← Array.getElem?_toList,e0,List.getElem?_map,List.getElem?_eq_getElem (show i<hs.length from hi)];simp [List.getD,show i<hs.length from hi]
  exact ⟨block_lt_of_cell (c1 0 (by omega)),c1,c0⟩

end Go.Proofs.YtabiglnmfdpcfaaGreatDoor

namespace Go.Proofs.YtabiglnmfdpcfaaGreatDoor
variable {W:World}
variable {base fuel:Nat}
variable {v:Value}
set_option maxRecDepth 20000
open Go.ChangeShapes Go.WideShapes Go.ChangeAt Go.RowKit

namespace batchApplies
set_option maxRecDepth 100000 in
theorem lifted (os:Os) (started:os.Started) (H:Type) (enc:TypeId×Value→H):
    ReturnsInHanded {} Tryz.checked os 3 .any (fun w args=>(Rows.batchAppliesSpec.pre enc Tryz.prog Tryz.f3 [] false w args∧laidMetH Tryz.prog laid2 w)∧sizedMet enc Tryz.prog Tryz.f3 (OpenSpec.ofChange Rows.batchAppliesSpec) false w args)
      (Rows.batchAppliesSpec.post enc Tryz.prog Tryz.f3 false true false false):=by
  refine returnsInHanded_of_change_and (C:=Tryz.checked) (X:=fun w _=>laidMetH Tryz.prog laid2 w) (fun _ _ _ hh h=>h.of_heap hh) ownK started (by kernel_rfl) Tryz.func3
    (ChangeSpec.witness_shaped (enc:=enc) (C:=Tryz.checked) (os:=os) (X:=fun w _=>laidMetH Tryz.prog laid2 w) false (World.doorLaid Tryz.prog 400 os) #[.slice none 0 0,.slice none 0 0,.bool false,.int .i64 0] 8 rfl (World.shaped_of_RefB (by kernel_rfl) (by kernel_rfl)) (by kernel_rfl) (by kernel_rfl) (by kernel_rfl) (door_met os _)) ?_
  intro W base args ds gs before hval0 hW hcnd hsz0 hL _;have hval:∀(j:Nat) t v,Tryz.f3.params[j]?=some t→args[j]?=some v→Value.okWide Tryz.prog W .any base t v:=hval0;have hW':=hW;obtain ⟨p,q,hA0,hV,rfl,hfz,hnd⟩:=hW;have hA:DataW.TrodAll enc Tryz.prog W 0 (fun _=>true) true Tryz.f3.params.toList args.toList ds p:=hA0;have hsz:(DataW.weightsEach Tryz.prog (Tryz.f3.params.toList++Rows.batchAppliesSpec.plain.varTypes Tryz.prog) (ds++gs)).all (· ≤reachBytes)=true:=hsz0;rw [Tryz.params3] at hA hval hsz;obtain ⟨v0,vs0,d0,ds0,p0,q0,hargs,rfl,rfl,h0,r0⟩:=trodAll_cons hA;obtain ⟨v1,vs1,d1,ds1,p1,q1,rfl,rfl,rfl,h1,r1⟩:=trodAll_cons r0;obtain ⟨v2,vs2,d2,ds2,p2,q2,rfl,rfl,rfl,h2,r2⟩:=trodAll_cons r1;obtain ⟨v3,vs3,d3,ds3,p3,q3,rfl,rfl,rfl,h3,r3⟩:=trodAll_cons r2;obtain ⟨rfl,rfl,rfl⟩:=trodAll_nil r3;obtain rfl:args= #[v0,v1,v2,v3]:=by cases args;simp_all
  obtain ⟨rfl,rfl⟩:=trodVars_none hV;have lt0:∀x∈p0,x.block<W.heap.size:=by obtain ⟨m,hm⟩:=h0;exact DataW.trod_lt m _ _ _ hm
  have lt1:∀x∈p1,x.block<W.heap.size:=by obtain ⟨m,hm⟩:=h1;exact DataW.trod_lt m _ _ _ hm
  have lt2:∀x∈p2,x.block<W.heap.size:=by obtain ⟨m,hm⟩:=h2;exact DataW.trod_lt m _ _ _ hm
  have lt3:∀x∈p3,x.block<W.heap.size:=by obtain ⟨m,hm⟩:=h3;exact DataW.trod_lt m _ _ _ hm
  obtain ⟨V,es,hpr,hes,_⟩:=arg_pairs (hval 0 22 v0 rfl rfl) h0 hsz 0 rfl rfl;obtain ⟨ls,hwr,hln,hll⟩:=arg_writes (hval 1 23 v1 rfl rfl) h1 hsz 1 rfl rfl;obtain ⟨x2,rfl,_⟩:=open_bool Tryz.underlying4 (hval 2 4 v2 rfl rfl) h2;obtain ⟨x3,rfl,_,_,_⟩:=open_int Tryz.underlying3 (hval 3 3 v3 rfl rfl) h3;clear hA0 hval0;refine (applies_walk v0 v1 V es ls x2 x3 W (of_laid hL) hpr (by omega) hwr hll (by omega)).mono fun e W' ⟨he,bel⟩=>?_
  subst he;have t0:=Below.trod laidOut (by kernel_rfl) (of_decide_eq_true (by kernel_rfl)) h0 bel lt0;have t1:=Below.trod laidOut (by kernel_rfl) (of_decide_eq_true (by kernel_rfl)) h1 bel lt1;have t2:=Below.trod laidOut (by kernel_rfl) (of_decide_eq_true (by kernel_rfl)) h2 bel lt2;have t3:=Below.trod laidOut (by kernel_rfl) (of_decide_eq_true (by kernel_rfl)) h3 bel lt3;exact ⟨_,rfl,_,_,_,[],_,[],hW',trodAll_mk1 (shut_bool Tryz.underlying4 _),(trodAll_cons_mk t0 (trodAll_cons_mk t1 (trodAll_cons_mk t2 (trodAll_cons_mk t3 trodAll_mk0)))),rfl,bel.frame _,fun h=>by cases h⟩

theorem band {a b:Bool} (h:a=true) (k:b=true):(a && b)=true:=by rw [h,k];rfl
set_option maxHeartbeats 16000000 in
theorem facts:joinedFacts Tryz.pinned.checked.prog 3 Tryz.f3 Rows.batchAppliesSpec Rows.batchAppliesRow=true:=by
  unfold joinedFacts
  repeat' with_reducible refine band ?_ ?_
  all_goals (as_aux_lemma=>kernel_rfl)

theorem over:Rows.BatchAppliesSaid:=
  OpenClaim.holds_of_wide 3 Tryz.f3 rfl rfl rfl rfl rfl rfl rfl ⟨rfl,rfl,rfl,rfl,rfl⟩ rfl rfl rfl rfl rfl (by as_aux_lemma=>kernel_rfl) Tryz.func3 facts
    (of_decide_eq_true (by as_aux_lemma=>kernel_rfl)) (by as_aux_lemma=>(unfold Func.isWrapper;first | (rw [if_pos (by decide+kernel)];kernel_rfl) | (rw [if_neg (by decide+kernel)];exact ⟨rfl,rfl⟩)))
    (fun os started H enc _=>lifted os started H enc)
end batchApplies

theorem batchApplies_holds:Rows.BatchAppliesCardSaid:=
  Claim7.holds_tied_plain_at .later [] [.data, .data] true (true, "9e53ca064beb260b1796de00f1e0162c94f15791a003392b6ec00109eba6cdd1") false
    batchApplies.over (fun _ h=>by cases h) (by kernel_rfl) (fun _ h=>by cases h) batchApplies_row_tie rfl ⟨rfl,rfl⟩ (by kernel_rfl) rfl
    (fun f fn hf hfn=>by
      obtain rfl:f=3:=Option.some.inj ((show Tryz.prog.funcNamed Rows.batchAppliesRow.func=some 3 by kernel_rfl).symm.trans hf) |>.symm
      obtain rfl:fn=Tryz.f3:=(Option.some.inj (Tryz.func3.symm.trans hfn)).symm;exact ⟨by kernel_rfl,fun j t ht=>by
        rw [Tryz.params3] at ht;have hm:t∈[22,23,4,3]:=by simpa using Array.mem_of_getElem? ht
        have hall:([22,23,4,3].all fun u=>!Tryz.prog.wantsStandIn u)=true:=by kernel_rfl
        exact (show Tryz.prog.wantsStandIn t=false by simpa using List.all_eq_true.1 hall t hm)⟩)
    (by kernel_rfl)
end Go.Proofs.YtabiglnmfdpcfaaGreatDoor
#print axioms Go.Proofs.YtabiglnmfdpcfaaGreatDoor.batchApplies_holds
