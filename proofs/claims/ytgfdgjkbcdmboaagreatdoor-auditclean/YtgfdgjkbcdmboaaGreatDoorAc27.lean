/- node.leavesOf, as a contract: leaves in a row of the call's own, sorted by slices.SortFunc. -/
import Derived.Test.YtgfdgjkbcdmboaaGreatDoorAc26
namespace Go.Proofs.YtgfdgjkbcdmboaaGreatDoor
set_option maxRecDepth 20000
open Go.RowKit Go.Shelf
open Go.Sort (HoldsK putRowK size_flatK get_flatK)
theorem Zta {ops:Array Oper} {rest:List Oper} {o:Oper} {a:Act} {Q:Exit→Act→World→Prop} (w:World) (hgd:o.guard=none) (x y:Operand)
  (hop:o.op=Op.makeSlice 215 x y) (n:Nat) (hx:a.eval x=.int .i64 n) (hy:a.eval y=.int .i64 n) (hn:n≤4096)
  (h:∀w' g cs,w.heap.size≤g→Blk w' g 145 cs→cs.size=n * 129→Below w.heap.size w w'→wpList Tryz.prog ops Q rest (a.put o.dst (.slice (some ⟨g,0,none⟩) n n)) w'):
  wpList Tryz.prog ops Q (o::rest) a w:=by
 refine wpList_plain hgd fun K hK=>?_
 obtain ⟨i,z,hi,hz,hs,hby⟩:∃i z,Tryz.prog.info? 145=some i∧i.zero=some z∧i.size=129∧i.bytes=129:=⟨_,_,rfl,rfl,rfl,rfl⟩
 have hr:=run_make (P:=Tryz.prog) w 215 145 i z Tryz.underlying215 hi hz .i64 .i64 n n (by omega) (by omega) (by rw [hby];omega) (by omega)
 rw [hs] at hr
 simp only [Int.toNat_natCast] at hr
 unfold Oper.wp
 simp [execOp,hop,hx,hy,hr,Result.andThen]
 exact hK _ _ (h _ _ _ (Nat.le_refl _) (heap_alloc_new w _) (size_madeCells _ _) (Zd w _))
def Rows (w:World) (g m:Nat) (ls:List Lf):Prop:=(∀i,i<ls.length→w.rangeAt g (i * 129) (encLf ls[i]!))∧∀i,i<m→w.there g (i * 129) 129
theorem Rows.grow {w w':World} {g m:Nat} {ls:List Lf} (h:Rows w g m ls) (hb:Below w.heap.size w w'):Rows w' g m ls:=⟨fun i hi=>Zbh (h.1 i hi) hb,fun i hi=>Zti (h.2 i hi) hb⟩
theorem Rows.put {w:World} {g m:Nat} {ls:List Lf} (h:Rows w g m ls) (x:Lf) (hm:ls.length<m):Rows (w.setCells g (ls.length * 129) (encLf x)) g m (ls++[x]):=by
 constructor
 ·intro i hi
  rw [List.length_append,List.length_singleton] at hi
  by_cases e:i=ls.length
  ·subst e
   have:(ls++[x])[ls.length]! = x:=by rw [getElem!_pos _ _ (by simp)];simp
   rw [this]
   exact World.rangeAt_setCells_same _ _ _ _ (by rw [Zbk];exact h.2 _ hm)
  ·have hlt:i<ls.length:=by omega
   have e2:(ls++[x])[i]! = ls[i]!:=by
    rw [getElem!_pos _ i (by simp;omega),getElem!_pos _ i hlt]
    exact List.getElem_append_left hlt
   rw [e2]
   refine World.rangeAt_setCells_apart (h.1 i hlt) _ _ _ (.inr (.inl ?_))
   rw [Zbk]
   omega
 ·intro i hi
  exact World.there_setCells (h.2 i hi) _ _ _
theorem Rows.holds {w:World} {g:Nat} {ls:List Lf} (h:Rows w g ls.length ls):HoldsK encLf 129 w g 0 ls.toArray:=by
 intro j hj
 rw [size_flatK,List.size_toArray] at hj
 have h1:j / 129<ls.length:=by omega
 have h2:j % 129<129:=by omega
 have hc:=h.1 (j / 129) h1 (j % 129) (encLf ls[j / 129]!)[j % 129]! (by
  have hlt:j % 129<(encLf ls[j / 129]!).length:=by rw [Zbk];exact h2
  rw [getElem!_pos (encLf ls[j / 129]!) _ hlt,List.getElem?_eq_getElem hlt])
 have hf:=(h.2 (j / 129) h1 (j % 129) h2).2
 have e:j / 129 * 129+j % 129=j:=by omega
 rw [e] at hc hf
 rw [get_flatK _ _ _ _ (by rw [List.size_toArray];exact hj),Nat.zero_add,show ls.toArray[j / 129]! = ls[j / 129]! by simp]
 exact ⟨hc,hf⟩
theorem rows_of_holds {w:World} {g n cap:Nat} {d:Array Lf} (h:HoldsK encLf 129 w g 0 d) (hn:d.size=n) (hc:n≤cap):LvAt w (.slice (some ⟨g,0,none⟩) n cap) d.toList:=by
 subst hn
 refine ⟨_,_,by rw [Array.length_toList],by rw [Array.length_toList];exact hc,fun _=>⟨g,0,rfl,fun i hi j v hv=>?_⟩⟩
 rw [Array.length_toList] at hi
 have hj:j<129:=by have:=(List.getElem?_eq_some_iff.1 hv).1;rwa [Zbk] at this
 have:=(h.cell hi hj).1
 have e:d.toList[i]! = d[i]!:=by
  rw [getElem!_pos d.toList i (by simpa using hi),getElem!_pos d i hi]
  simp
 rw [e] at hv
 rw [this]
 rw [getElem!_pos _ _ (by rw [Zbk];exact hj)]
 rw [List.getElem?_eq_getElem (by rw [Zbk];exact hj)] at hv
 exact hv
theorem Zup (blk off size:Nat) (w:World):CmpLays Tryz.prog 202 #[] encLf 129 cfLf blk off size w:=fun m os dk _ x y=>by
 have:=Zqm 1 1 x.key x.val z32 z32 y.key y.val z32 z32 (sortWorldK encLf 129 w blk off m dk os) x.nd y.nd
 exact this.mono fun e w' ⟨h1,h2⟩=>⟨h1,h2⟩
theorem Zio {w0 w:World} {g n:Nat} {d:Array Lf} {os:Array Obj} (hb:Below w0.heap.size w0 w) (hg:w0.heap.size≤g):Below w0.heap.size w0 (sortWorldK encLf 129 w g 0 n d os):=by
 refine hb.trans ⟨rfl,rfl,rfl,size_sortWorldK_c encLf 129 w g 0 n d os,fun k hk=>?_⟩
 have hk':k<w.heap.size:=Nat.lt_of_lt_of_le hk hb.size
 unfold sortWorldK putRowK Go.Sort.putRow Go.Sort.mapBlock
 rw [Go.Sort.heap_grow_old _ _ (by simp [Go.Sort.ahead];exact hk')]
 simp [Go.Sort.ahead,Array.getElem?_modify]
 intro e
 omega
theorem Ybr (g:Nat) (ls:List Lf) (w0 w:World) (h:Rows w g ls.length ls) (hl:g<w.heap.size) (hb:Below w0.heap.size w0 w) (hg:w0.heap.size≤g) (hn:ls.length≤4096) (hne:ls.Pairwise fun a b=>a.key≠b.key):
  Calls Tryz.prog 201 #[.slice (some ⟨g,0,none⟩) ls.length ls.length,.func (.func 202) #[] #[]] w fun e w'=>e=.returned (.tuple #[])∧(∃l',LvAt w' (.slice (some ⟨g,0,none⟩) ls.length ls.length) l'∧l'.Perm ls∧Rise l')∧Below w0.heap.size w0 w':=by
 have eg:∀args w,(callFunc 202 args).run Tryz.prog w=.ok (.enter 202 args) w:=enters_of Tryz.func202 (by kernel_rfl) rfl
 have hcon:=AnyQ.slices_SortFunc Ybs 129 Tryz.isAgg145 Tryz.sizeOf145 encLf Zbk Zzo cfLf Ymw 202 #[] g 0 ls.length ls.toArray w eg (Zup g 0 _ w) h.holds hl (by rw [List.size_toArray];omega)
 rw [List.size_toArray] at hcon
 refine Calls.mono hcon ?_
 rintro e w' ⟨rfl,d',n,os,hp,hs,rfl⟩
 refine ⟨rfl,⟨d'.toList,?_,?_,?_⟩,Zio hb hg⟩
 ·exact rows_of_holds (holdsK_sortWorldK_c encLf 129 w g 0 ls.toArray d' n os h.holds hl hp.1) (by rw [hp.1];simp) (Nat.le_refl _)
 ·have h3:=hp.2.2
  have e1:d'.extract 0 ls.length=d':=by
   have:d'.size=ls.length:=by rw [hp.1];simp
   rw [← this]
   simp
  have e2:ls.toArray.extract 0 ls.length=ls.toArray:=by simp
  rw [e1,e2] at h3
  simpa using h3
 ·have h3:=hp.2.2
  have hsz:d'.size=ls.length:=by rw [hp.1];simp
  have e1:d'.extract 0 ls.length=d':=by
   rw [← hsz]
   simp
  have e2:ls.toArray.extract 0 ls.length=ls.toArray:=by simp
  rw [e1,e2] at h3
  have hne':d'.toList.Pairwise fun a b=>a.key≠b.key:=h3.symm.pairwise (by simpa using hne) (fun h=>Ne.symm h)
  refine List.pairwise_iff_getElem.2 fun i j hi hj hij=>?_
  have hi':i<d'.size:=by simpa using hi
  have hj':j<d'.size:=by simpa using hj
  have h4:=hs i j (Nat.zero_le _) hij (by omega)
  rw [getElem!_pos d' i hi',getElem!_pos d' j hj'] at h4
  have h5: ¬Ahead d'[j].key d'[i].key:=by
   intro ha
   have:=(Zmj d'[j] d'[i]).2 ha
   have h6:decide (cfLf d'[j] d'[i]<0)=false:=h4
   rw [h6] at this
   cases this
  rcases Zjy d'[j].hk d'[i].hk h5 with e | e
  ·exact absurd e.symm (List.pairwise_iff_getElem.1 hne' i j hi hj hij)
  ·exact e
open Go.RowKit
def LvPost (es:List Ent) (w:World) (e:Ending) (w':World):Prop:=
 ∃v ls,e=.returned (.tuple #[v,.int .i64 0])∧LvAt w' v ls∧ls.Perm (es.map mkLf)∧Rise ls∧Below w.heap.size w w'
set_option maxHeartbeats 1000000 in
theorem Znq (v:Value) (V:Nat→Value) (es:List Ent) (w:World) (hv:PrAt w v V es) (hn:es.length≤140737488355328) (hE:errB es≠0):
  Calls Tryz.prog 171 #[v] w fun e w'=>e=.returned (.tuple #[.slice none 0 0,.int .i64 (errB es)])∧Below w.heap.size w w':=by
 have HM:=Za (Znn v V es w hv hn)
 obtain ⟨a,cap,rfl,_,_,_⟩:=hv
 obtain ⟨E,hEE⟩:∃E,E=errB es:=⟨_,rfl⟩
 rw [← hEE] at HM hE ⊢
 have h1:(E != 0)=true:=by simp [hE]
 have h2:(E == 0)=false:=by simp [hE]
 clear hEE hE
 go_enter Tryz.func171,Tryz.ntmps171
 go_wp2_with (go_at_call 200;refine HM.out.mono ?_;rintro e w1 ⟨rfl,b1⟩)
 go_ret2
 exact ⟨rfl,b1⟩
set_option maxRecDepth 100000 in
set_option maxHeartbeats 8000000 in
theorem Zpu (v:Value) (V:Nat→Value) (es:List Ent) (w:World) (hv:PrAt w v V es) (hn:es.length≤4096) (hL:Laid w) (hE:errB es=0):
  Calls Tryz.prog 171 #[v] w (LvPost es w):=by
 have HM:=Za (Znn v V es w hv (by omega))
 rw [hE] at HM
 have hls:lsE [] es=0:=by rw [errB,if_neg (by omega)] at hE;exact hE
 obtain ⟨hlen,hap,_⟩:=Yfv [] es hls
 have hkeys:=hv.keys
 have HPost:Hid (∀w' v' ls,LvAt w' v' ls→ls.Perm (es.map mkLf)→Rise ls→Below w.heap.size w w'→LvPost es w (.returned (.tuple #[v',.int .i64 0])) w'):=fun w' v' ls h1 h2 h3 h4=>⟨v',ls,rfl,h1,h2,h3,h4⟩
 have HNE:Hid ((es.map mkLf).Pairwise fun a b=>a.key≠b.key):=by
  show List.Pairwise _ _
  rw [List.pairwise_map]
  refine List.Pairwise.imp_of_mem ?_ hap
  intro a b ha hb hab
  rw [Zbz (hkeys a ha),Zbz (hkeys b hb)]
  exact hab
 have HLN:Hid (∀k,k<es.length→(es.getD k e00).2.length≤1024):=by
  intro k hk
  have:=hlen es[k] (List.getElem_mem hk)
  simpa [List.getD,hk] using this
 have HL:=Za hL
 obtain ⟨a,cap,rfl,hcap,hc,hr⟩:=hv
 have HC:=Za hc
 have HR:=Za hr
 obtain ⟨n,hnn⟩:∃n,n=es.length:=⟨_,rfl⟩
 have HN:=Za hnn
 rw [← hnn] at HM hn ⊢
 clear hc hr hcap hnn hE hls hlen hap hkeys hL
 go_enter Tryz.func171,Tryz.ntmps171
 go_wp2_with (first
  |(go_at_call 200;refine HM.out.mono ?_;rintro e w1 ⟨rfl,b1⟩)
  |(refine Zta _ rfl _ _ rfl n rfl rfl hn ?_;intro w2 g cs hg2 Bg hcs b2))
 have HG:Hid (w.heap.size≤g):=Nat.le_trans b1.size hg2
 have HR0:Hid (Rows w2 g n []):=⟨fun i hi=>by simp at hi,fun i hi=>Bg.there _ _ (by rw [hcs];omega)⟩
 have HGL:Hid (g<w2.heap.size):=Bg.lt
 have c2:=Zb b1 b2
 clear Bg hcs hg2 b1 b2 cs HM
 go_loopw [18] (fun i wr=>∃k:Nat,k≤n∧i=.int .i64 k∧Hid (Rows wr g n ((es.take k).map mkLf))∧Hid (g<wr.heap.size)∧Below w.heap.size w wr) (fun i _=>n-(intOf i).toNat)
 case atStart=>exact ⟨0,by omega,rfl,HR0,HGL,c2⟩
 case round=>
  obtain ⟨k,hk,rfl,hrows,hgl,hbw⟩:=hrel
  by_cases hlt:k<n
  ·have hlt':k<es.length:=by rw [← HN.out];exact hlt
   obtain ⟨ga,off,rfl,hcc⟩:=HC.out (by omega)
   have z1:(k:Int)<(n:Int):=by omega
   have z0:(0:Int)≤(k:Int):=by omega
   obtain ⟨hkey,hrd⟩:=HR.out k hlt'
   have HRG:Hid (wr.rangeAt ga (off+k * 33) (encP (es.getD k e00).1 (V k))):=Zdx (hcc k hlt') hbw
   have hlv:=HLN.out k hlt'
   have HV:Hid (∀w',Below w.heap.size w w'→Laid w'→Calls Tryz.prog 139 #[V k] w' fun e w''=>e=.returned (.agg (B (vaD (es.getD k e00).2)))∧Below w'.heap.size w' w''):=fun w' hb hl=>Zmr (V k) _ w' (hrd.grow hb) hl (by omega)
   have HX:Hid (encLf (mkLf (es.getD k e00))=(B (nd 1 (es.getD k e00).1 (vaD (es.getD k e00).2) z32 z32)).toList):=by
    show _=_
    rw [Zaf,encLf,Lf.ints,Zbz hkey,Zlz hkey]
   have HBL:Hid (Tryz.prog.built 145 [(0,.int .u8 1),(1,.agg (B (es.getD k e00).1)),(2,.agg (B (vaD (es.getD k e00).2)))]=some (B (nd 1 (es.getD k e00).1 (vaD (es.getD k e00).2) z32 z32))):=Zuw _ _ hkey.1 (Zr _)
   have HT:Hid ((es.take (k+1)).map mkLf=(es.take k).map mkLf++[mkLf (es.getD k e00)]):=by
    show _=_
    rw [List.take_add_one,List.map_append]
    simp [List.getD,hlt']
   have HTL:Hid (((es.take k).map mkLf).length=k):=by show _=_;simp;omega
   have HNS:Hid ((B (nd 1 (es.getD k e00).1 (vaD (es.getD k e00).2) z32 z32)).size=129):=by
    have:Nd 1 (es.getD k e00).1 (vaD (es.getD k e00).2) z32 z32:=⟨by omega,by omega,hkey.1,Zr _,rfl,rfl,hkey.2,Zav _,Zbu,Zbu⟩
    exact this.size
   obtain ⟨va,vc,hV,_,_,_,_⟩:=hrd
   obtain ⟨K,hK⟩:∃K,K=(es.getD k e00).1:=⟨_,rfl⟩
   obtain ⟨Z,hZ⟩:∃Z,Z=(es.getD k e00).2:=⟨_,rfl⟩
   obtain ⟨x,hx⟩:∃x,x=mkLf (es.getD k e00):=⟨_,rfl⟩
   obtain ⟨ls,hlsd⟩:∃ls,ls=(es.take k).map mkLf:=⟨_,rfl⟩
   rw [← hx] at HX HT
   rw [← hlsd] at HT HTL hrows
   rw [← hK] at HRG hkey HX HBL HNS
   rw [← hZ] at HV HX hV HBL HNS
   obtain ⟨A,hA⟩:∃A,A=vaD Z:=⟨_,rfl⟩
   rw [← hA] at HV HX HBL HNS
   obtain ⟨N,hNd⟩:∃N,N=nd 1 K A z32 z32:=⟨_,rfl⟩
   rw [← hNd] at HX HBL HNS
   rw [hV] at HRG HV
   obtain ⟨L,hLL⟩:∃L,L=Z.length:=⟨_,rfl⟩
   rw [← hLL] at HRG HV
   have HKY:=Za hkey
   have hsz:(Tryz.prog.info? 152).map (·.size)=some (encP K (.slice va L vc)).toArray.size:=by rw [List.size_toArray,Zx K _ HKY.out.1];exact Zeg
   have hsz2:(encP z32 (.slice none 0 0)).toArray.size=(encP K (.slice va L vc)).toArray.size:=by rw [List.size_toArray,List.size_toArray,Zx K _ HKY.out.1];rfl
   have HSZ:=Za hsz
   have HSZ2:=Za hsz2
   have HLK:Hid ((Tryz.prog.info? 34).map (·.size)=some (B K).toList.length):=by show _=_;rw [Zaf,List.length_map,HKY.out.1];exact Zcn
   clear hcc hK hZ hV hkey hx hlsd hsz hsz2 hlt' hA hNd hLL hlv
   go_wp2_with (first
    |((with_reducible refine Zk 22 21 ?_);refine Zeq _ rfl _ rfl ga (off+k * 33) K _ rfl HRG.out HKY.out.1 ?_)
    |((with_reducible refine Zv 7 ?_);refine Zg _ rfl _ rfl _ Zfr ?_;intro w2 g7 hg7 hl7 B7 q7)
    |((with_reducible refine Zah 7 ?_);refine Zf _ rfl _ _ _ rfl g7 _ _ rfl rfl B7 HSZ.out HSZ2.out (Zic _ _ _ _) ?_;intro w3 B8 r8;have q8:=Ze q7 r8 hg7))
   have HS:Hid (∀w',Below w3.heap.size w3 w'→w'.rangeAt g7 0 (B K).toList∧w'.cell? ⟨g7,32,none⟩=some (.slice va L vc)):=fun w' hw'=>⟨Zhw (B8.grow hw'),Zhv (B8.grow hw') HKY.out.1⟩
   have d0:Below w3.heap.size w3 w3.drew:=(Below.refl _ _).drew
   have hb3:=Zb hbw q8
   have HROW:Hid (Rows w3 g n ls):=hrows.out.grow q8
   have HG3:Hid (g≠g7):=by
    have h1:=hgl.out
    intro e
    subst e
    omega
   clear hrows B7 q7 r8 hg7 hl7 B8 HRG
   refine wp_region_held_drew (S:=fun w'=>w'.rangeAt g7 0 (B K).toList∧w'.cell? ⟨g7,32,none⟩=some (.slice va L vc)) (by kernel_rfl) (HS.out _ d0) (fun hHeld=>?_)
   refine tkp 0 (.slice (some ⟨g,0,none⟩) n n) hHeld ?_
   simp only [zq]
   refine tkp 1 (.int .i64 k) hHeld ?_
   simp only [zq]
   refine tkp 2 (.pointer (some ⟨g7,0,none⟩)) hHeld ?_
   simp only [zq]
   refine tkg 3 (.agg (B K)) rfl (yieldsIf_load_mid rfl 34 (.tmp 25) rfl g7 0 rfl (B K).toList _ (fun w hS=>hS.1) Tryz.underlying34 rfl HLK.out) hHeld ?_
   simp only [zq]
   refine tkp 4 (.pointer (some ⟨g7,32,none⟩)) hHeld ?_
   simp only [zq]
   refine tkg 5 (.slice va L vc) rfl (Or.inl ⟨by rfl,fun w hS=>by (have s1:=hS.2;go_simp)⟩) hHeld ?_
   simp only [zq]
   refine wpAnyH_ready (rs:=[6]) (by kernel_rfl) (by simp) ?_
   refine AllReadyH.cons rfl (fun KQ hK=>?_) AllReadyH.nil
   go_simp
   refine (HV.out _ (Zb hb3 d0) (HL.out.grow (Zb hb3 d0))).mono ?_
   rintro e x1 ⟨rfl,a1⟩
   have d1:=Zb d0 a1
   refine hK.out _ _ (HS.out _ d1) (fun hHeld=>?_)
   clear hK KQ
   refine tkg 7 (.agg (B N)) rfl (Or.inl ⟨by rfl,fun w hS=>Yjd _ _ 145 _ (by rfl) (B N) (by rw [List.map_toArray];exact HBL.out) w⟩) hHeld ?_
   simp only [zq]
   refine tkp 8 (.pointer (some ⟨g,k * 129,none⟩)) hHeld ?_
   simp only [zq]
   refine wpAnyH_ready (rs:=[9]) (by kernel_rfl) (by simp) ?_
   refine AllReadyH.cons rfl (fun KQ hK=>?_) AllReadyH.nil
   have HRW:=HROW.out.grow d1
   refine Ybl _ rfl _ _ _ rfl g (k * 129) (B N) rfl rfl (by rw [HNS.out];exact HRW.2 k hlt) (by rw [HNS.out];exact Zwk) (Zbe _) ?_
   have c4:Below w.heap.size w (x1.setCells g (k * 129) (B N).toList):=Zfg HG.out _ _ _ (Zb hb3 d1)
   have hput:=HRW.put x (by rw [HTL.out];exact hlt)
   rw [HTL.out,HX.out,← HT.out] at hput
   have HPT:=Za hput
   have hS9:(x1.setCells g (k * 129) (B N).toList).rangeAt g7 0 (B K).toList∧(x1.setCells g (k * 129) (B N).toList).cell? ⟨g7,32,none⟩=some (.slice va L vc):=by
    have h1:=HS.out _ d1
    have h2:x1.rangeAt g7 32 [.slice va L vc]:=fun j v hv=>by
     obtain ⟨h3,h4⟩:=List.getElem?_eq_some_iff.1 hv
     have:j=0:=by simpa using h3
     subst this
     have:Value.slice va L vc=v:=by simpa using h4
     rw [← this]
     exact h1.2
    refine ⟨World.rangeAt_setCells_apart h1.1 _ _ _ (.inl (Ne.symm HG3.out)),?_⟩
    have h5:=World.rangeAt_setCells_apart h2 g (k * 129) (B N).toList (.inl (Ne.symm HG3.out))
    exact h5 0 _ rfl
   refine hK.out _ _ hS9 (fun hHeld=>?_)
   clear hK KQ hput hS9 HRW
   refine wpAnyH_done (by kernel_rfl) ?_ _
   generalize x1.setCells g (k * 129) (B N).toList=x2 at c4 HPT ⊢
   have hg2:Hid (g<x2.heap.size):=by
    obtain ⟨h1,_⟩:=HPT.out.2 k hlt 0 (by omega)
    obtain ⟨u,hu⟩:=Option.isSome_iff_exists.1 h1
    exact block_lt_of_cell hu
   go_wp2_with fail
   exact ⟨⟨k+1,by omega,by go_num,HPT,hg2,c4⟩,by simp [intOf];omega⟩
  ·have hkn:k=es.length:=by rw [← HN.out];omega
   have z1: ¬(k:Int)<(n:Int):=by omega
   have HTK:Hid ((es.take k).map mkLf=es.map mkLf):=by show _=_;rw [hkn,List.take_length]
   rw [HTK.out] at hrows
   have HSO:Hid (Calls Tryz.prog 201 #[.slice (some ⟨g,0,none⟩) n n,.func (.func 202) #[] #[]] wr fun e w'=>e=.returned (.tuple #[])∧(∃l',LvAt w' (.slice (some ⟨g,0,none⟩) n n) l'∧l'.Perm (es.map mkLf)∧Rise l')∧Below w.heap.size w w'):=by
    have hl:(es.map mkLf).length=n:=by rw [List.length_map,HN.out]
    have:=Ybr g (es.map mkLf) w wr (by rw [hl];exact hrows.out) hgl.out hbw HG.out (by rw [hl];exact hn) HNE.out
    rwa [hl] at this
   clear hrows hkn
   go_wp2_with (go_at_call 201;refine HSO.out.mono ?_;rintro e w5 ⟨rfl,⟨l',p1,p2,p3⟩,b5⟩)
   go_ret2
   exact HPost.out _ _ _ p1 p2 p3 b5
theorem Zds (D:List Int) (h:D.length=32):(Tryz.prog.info? 121).map (·.size)=some (B D).size∧(B (List.replicate 32 0)).size=(B D).size:=⟨by rw [Zm,h];exact Zwa,by rw [Zm,Zm,h];rfl⟩
set_option maxHeartbeats 2000000 in
theorem Ziw (d:Nat) (a:Option Addr) (cap:Nat) (w:World) (hL:Laid w):Calls Tryz.prog 173 #[.slice a 0 cap,.int .i64 d] w fun e w'=>e=.returned (.agg (B emD))∧Below w.heap.size w w':=by
 have HL:=Za hL
 obtain ⟨D,hD⟩:∃D,D=emD:=⟨_,rfl⟩
 have HF:=Za (Zds D (by rw [hD];exact Zr _))
 have HE:Hid (∀w',Laid w'→Calls Tryz.prog 131 #[] w' fun e w''=>e=.returned (.agg (B D))∧Below w'.heap.size w' w''):=fun w' hl=>by rw [hD];exact Zoc w' hl
 rw [← hD]
 clear hL hD
 go_enter Tryz.func173,Tryz.ntmps173
 go_wp2_with (first
  |((with_reducible refine Zv 4 ?_);refine Zg _ rfl _ rfl _ Zab ?_;intro w1 g1 hg1 hl1 B1 b1)
  |(go_at_call 131;refine (HE.out _ (HL.out.grow b1)).mono ?_;rintro e w2 ⟨rfl,b2⟩;have B2:=B1.grow b2)
  |((with_reducible refine Zah 4 ?_);refine Zf _ rfl _ _ _ rfl g1 _ (B D) rfl rfl B2 HF.out.1 HF.out.2 (Zbe _) ?_;intro w3 B3 r3))
 exact bodyPost_ret (v:=.agg (B D)) (results_cell_row rfl _ _ g1 _ _ _ _ rfl B3 Tryz.underlying121 rfl HF.out.1) rfl ⟨rfl,Ze (Zb b1 b2) r3 hg1⟩
set_option maxHeartbeats 2000000 in
theorem Zix (d g off cap:Nat) (x:Lf) (w:World) (hr:w.rangeAt g off (encLf x)) (hL:Laid w):Calls Tryz.prog 173 #[.slice (some ⟨g,off,none⟩) 1 cap,.int .i64 d] w fun e w'=>e=.returned (.agg (B (lfD x.key x.val)))∧Below w.heap.size w w':=by
 have HL:=Za hL
 obtain ⟨D,hD⟩:∃D,D=lfD x.key x.val:=⟨_,rfl⟩
 have HF:=Za (Zds D (by rw [hD];exact Zr _))
 have HE:Hid (∀w',Laid w'→Calls Tryz.prog 199 #[.agg (B x.key),.agg (B x.val)] w' fun e w''=>e=.returned (.agg (B D))∧Below w'.heap.size w' w''):=fun w' hl=>by rw [hD];exact Zrz x.key x.val w' x.hk.1 x.hl x.hk.2 x.hb hl
 have HR:Hid (∀w',Below w.heap.size w w'→w'.rangeAt g (off+1) (B x.key).toList∧w'.rangeAt g (off+33) (B x.val).toList):=fun w' hw'=>⟨Zbh (Zrx hr) hw',Zbh (Yla hr) hw'⟩
 have HLK:Hid ((Tryz.prog.info? 34).map (·.size)=some (B x.key).toList.length):=by show _=_;rw [Zaf,List.length_map,x.hk.1];exact Zcn
 have HLV:Hid ((Tryz.prog.info? 121).map (·.size)=some (B x.val).toList.length):=by show _=_;rw [Zaf,List.length_map,x.hl];exact Zwa
 obtain ⟨K,hK⟩:∃K,K=x.key:=⟨_,rfl⟩
 obtain ⟨V,hV⟩:∃V,V=x.val:=⟨_,rfl⟩
 rw [← hK] at HE HR HLK
 rw [← hV] at HE HR HLV
 rw [← hD]
 clear hL hD hK hV hr
 go_enter Tryz.func173,Tryz.ntmps173
 go_wp2_with (first
  |((with_reducible refine Zv 4 ?_);refine Zg _ rfl _ rfl _ Zab ?_;intro w1 g1 hg1 hl1 B1 b1))
 have d0:Below w.heap.size w w1.drew:=Zb b1 (Below.refl _ _).drew
 refine wp_region_held_drew (S:=fun w'=>w'.rangeAt g (off+1) (B K).toList∧w'.rangeAt g (off+33) (B V).toList) (by kernel_rfl) (HR.out _ d0) (fun hHeld=>?_)
 refine tkp 0 (.slice (some ⟨g,off,none⟩) 1 cap) hHeld ?_
 simp only [zq]
 refine tkp 1 (.pointer (some ⟨g,off,none⟩)) hHeld ?_
 simp only [zq]
 refine tkp 2 (.pointer (some ⟨g,off+1,none⟩)) hHeld ?_
 simp only [zq]
 refine tkg 3 (.agg (B K)) rfl (yieldsIf_load_mid rfl 34 (.tmp 16) rfl g (off+1) rfl (B K).toList _ (fun w hS=>hS.1) Tryz.underlying34 rfl HLK.out) hHeld ?_
 simp only [zq]
 refine tkp 4 (.slice (some ⟨g,off,none⟩) 1 cap) hHeld ?_
 simp only [zq]
 refine tkp 5 (.pointer (some ⟨g,off,none⟩)) hHeld ?_
 simp only [zq]
 refine tkp 6 (.pointer (some ⟨g,off+33,none⟩)) hHeld ?_
 simp only [zq]
 refine tkg 7 (.agg (B V)) rfl (yieldsIf_load_mid rfl 121 (.tmp 20) rfl g (off+33) rfl (B V).toList _ (fun w hS=>hS.2) Tryz.underlying121 rfl HLV.out) hHeld ?_
 simp only [zq]
 refine wpAnyH_ready (rs:=[8]) (by kernel_rfl) (by simp) ?_
 refine AllReadyH.cons rfl (fun KQ hK=>?_) AllReadyH.nil
 go_simp
 refine (HE.out _ (HL.out.grow d0)).mono ?_
 rintro e x1 ⟨rfl,a1⟩
 have d1:=Zb d0 a1
 refine hK.out _ _ (HR.out _ d1) (fun hHeld=>?_)
 clear hK KQ
 refine wpAnyH_ready (rs:=[9]) (by kernel_rfl) (by simp) ?_
 refine AllReadyH.cons rfl (fun KQ hK=>?_) AllReadyH.nil
 refine Zch _ rfl _ _ _ rfl g1 _ (B D) rfl rfl (B1.drew.grow a1) HF.out.1 HF.out.2 (Zbe _) ?_
 intro w4 B4 g4
 have c4:=Ze d1 g4 hg1
 refine hK.out _ _ (HR.out _ c4) (fun hHeld=>?_)
 clear hK KQ
 refine wpAnyH_done (by kernel_rfl) ?_ _
 go_wp2_with fail
 exact bodyPost_ret (v:=.agg (B D)) (results_cell_row rfl _ _ g1 _ _ _ _ rfl B4 Tryz.underlying121 rfl HF.out.1) rfl ⟨rfl,c4⟩
theorem Zkj (n d:Nat) (ls:List Lf):(rtL n d ls).length=32:=by
 match n,ls with
 | _,[]=>rw [Zlq];exact Zr _
 | _,[x]=>rw [Zgt];exact Zr _
 | 0,_::_::_=>exact Zr _
 | n+1,a::b::l=>rw [Zex n d _ (by simp)];exact Zr _
theorem Znb (n d:Nat) (ls:List Lf):Bytes (rtL n d ls):=by
 match n,ls with
 | _,[]=>rw [Zlq];exact Zav _
 | _,[x]=>rw [Zgt];exact Zav _
 | 0,_::_::_=>exact Zav _
 | n+1,a::b::l=>rw [Zex n d _ (by simp)];exact Zav _
set_option maxHeartbeats 4000000 in
theorem Zpg (d:Nat) (a:Option Addr) (m cap:Nat) (R0 R1:List Int) (P0 P1:World→Value→Prop) (w:World) (hd:d<256) (hm:2≤m) (l0:R0.length=32) (l1:R1.length=32) (y0:Bytes R0) (y1:Bytes R1) (hL:Laid w)
  (hg:∀w w' v,Below w.heap.size w w'→P1 w v→P1 w' v)
  (hp:∀w',Below w.heap.size w w'→Calls Tryz.prog 204 #[.slice a m cap,.int .i64 d] w' fun e w''=>∃v0 v1,e=.returned (.tuple #[v0,v1])∧P0 w'' v0∧P1 w'' v1∧Below w'.heap.size w' w'')
  (h0:∀w' v,P0 w' v→Laid w'→Calls Tryz.prog 173 #[v,.int .i64 ((d:Int)+1)] w' fun e w''=>e=.returned (.agg (B R0))∧Below w'.heap.size w' w'')
  (h1:∀w' v,P1 w' v→Laid w'→Calls Tryz.prog 173 #[v,.int .i64 ((d:Int)+1)] w' fun e w''=>e=.returned (.agg (B R1))∧Below w'.heap.size w' w''):
  Calls Tryz.prog 173 #[.slice a m cap,.int .i64 d] w fun e w'=>e=.returned (.agg (B (inD R0 R1)))∧Below w.heap.size w w':=by
 have HL:=Za hL
 have HP:=Za hp
 have H0:=Za h0
 have H1:=Za h1
 have HG:=Za hg
 obtain ⟨D,hD⟩:∃D,D=inD R0 R1:=⟨_,rfl⟩
 have HF:=Za (Zds D (by rw [hD];exact Zr _))
 have HI:Hid (∀w',Laid w'→Calls Tryz.prog 188 #[.agg (B R0),.agg (B R1)] w' fun e w''=>e=.returned (.agg (B D))∧Below w'.heap.size w' w''):=fun w' hl=>by rw [hD];exact Znt R0 R1 w' l0 l1 y0 y1 hl
 have hw:IntKind.i64.wrap ((d:Int)+1)=(d:Int)+1:=by rw [IntKind.wrap_i64];omega
 have e0:((m:Int) == 0)=false:=by simp;omega
 have e1:((m:Int) == 1)=false:=by simp;omega
 rw [← hD]
 clear hL hD hp h0 h1 hg l0 l1 y0 y1 hm hd
 go_enter Tryz.func173,Tryz.ntmps173
 go_wp2_with (first
  |((with_reducible refine Zv 4 ?_);refine Zg _ rfl _ rfl _ Zab ?_;intro w1 g1 hg1 hl1 B1 b1;have KB:=Za B1.kp)
  |(go_at_call 204;refine (HP.out _ b1).mono ?_;rintro e w2 ⟨v0,v1,rfl,p0,p1,q2⟩;have HP0:=Za p0;have HP1:=Za p1;clear p0 p1;have c:=Zb b1 q2;replace KB:=Za (KB.out.step q2))
  |(go_at_call 173;have mk:=mk1;refine (H1.out _ _ HP1.out (HL.out.grow c)).mono ?_;rintro e w4 ⟨rfl,q4⟩;clear mk mk1;have cc:=Zb c q4;clear c;have c:=cc;clear cc;replace KB:=Za (KB.out.step q4))
  |(go_at_call 173;refine (H0.out _ _ HP0.out (HL.out.grow c)).mono ?_;rintro e w3 ⟨rfl,q3⟩;have mk1:Hid True:=trivial;have cc:=Zb c q3;clear c;have c:=cc;clear cc;replace KB:=Za (KB.out.step q3);replace HP1:=Za (HG.out _ _ _ q3 HP1.out))
  |(go_at_call 188;refine (HI.out _ (HL.out.grow c)).mono ?_;rintro e w5 ⟨rfl,q5⟩;have cc:=Zb c q5;clear c;have c:=cc;clear cc;replace KB:=Za (KB.out.step q5))
  |((with_reducible refine Zah 4 ?_);refine Zf _ rfl _ _ _ rfl g1 _ (B D) rfl rfl KB.out.now HF.out.1 HF.out.2 (Zbe _) ?_;intro w6 B6 r6))
 exact bodyPost_ret (v:=.agg (B D)) (results_cell_row rfl _ _ g1 _ _ _ _ rfl B6 Tryz.underlying121 rfl HF.out.1) rfl ⟨rfl,Ze c r6 hg1⟩
theorem Ztr:∀(n d:Nat) (ls:List Lf) (v:Value) (w:World),d+n=256→ls.length≤4096→Rise ls→Same ls d→LvAt w v ls→Laid w→
  Calls Tryz.prog 173 #[v,.int .i64 d] w fun e w'=>e=.returned (.agg (B (rtL n d ls)))∧Below w.heap.size w w':=by
 intro n
 induction n with
 | zero=>
  intro d ls v w hd hn hr hs hv hL
  obtain rfl:d=256:=by omega
  have hf:=hr.few hs
  obtain ⟨a,cap,rfl,hc,h⟩:=hv
  match ls,hf,h with
  | [],_,_=>rw [Zlq];exact Ziw 256 a cap w hL
  | [x],_,h=>
   obtain ⟨g,off,rfl,hrr⟩:=h (by simp)
   have h0:=hrr 0 (by simp)
   rw [Zgt]
   exact Zix 256 g off cap x w (by simpa using h0) hL
 | succ n ih=>
  intro d ls v w hd hn hr hs hv hL
  obtain ⟨a,cap,rfl,hc,h⟩:=hv
  match ls,hn,hr,hs,hc,h with
  | [],_,_,_,_,_=>rw [Zlq];exact Ziw d a cap w hL
  | [x],_,_,_,_,h=>
   obtain ⟨g,off,rfl,hrr⟩:=h (by simp)
   have h0:=hrr 0 (by simp)
   rw [Zgt]
   exact Zix d g off cap x w (by simpa using h0) hL
  | x::y::ls,hn,hr,hs,hc,h=>
   obtain ⟨g,off,rfl,hrr⟩:=h (by simp)
   rw [Zex n d _ (by simp)]
   have hle:∀b,(sdL (x::y::ls) d b).length≤4096:=fun b=>Nat.le_trans (List.length_filter_le _ _) hn
   have hi:∀b w' v,LvAt w' v (sdL (x::y::ls) d b)→Laid w'→Calls Tryz.prog 173 #[v,.int .i64 ((d:Int)+1)] w' fun e w''=>e=.returned (.agg (B (rtL n (d+1) (sdL (x::y::ls) d b))))∧Below w'.heap.size w' w'':=by
    intro b w' v hv hl
    have:=ih (d+1) _ v w' (by omega) (hle b) (hr.side d b) (hs.side b) hv hl
    simpa using this
   exact Zpg d _ _ cap _ _ (fun w v=>LvAt w v (sdL (x::y::ls) d 0)) (fun w v=>LvAt w v (sdL (x::y::ls) d 1)) w (by omega) (by simp) (Zkj _ _ _) (Zkj _ _ _) (Znb _ _ _) (Znb _ _ _) hL
    (fun w w' v hb hv=>hv.grow hb)
    (fun w' hb=>Ycx g off cap d (x::y::ls) w' (by omega) hn hc hr hs (fun i hi=>Zbh (hrr i hi) hb))
    (hi 0) (hi 1)
theorem Yjp {a b c:List Int} {d:Nat} (h1:Ahead a b) (h2:Ahead b c) (hs:∀j,j<d→kb a j=kb c j):∀j,j<d→kb a j=kb b j:=by
 obtain ⟨i,hi,e1,e2,e3⟩:=h1
 by_cases hid:i<d
 ·have h3:Ahead c b:=⟨i,hi,fun j hj=>by rw [← hs j (by omega)];exact e1 j hj,by rw [← hs i hid];exact e2,e3⟩
  exact absurd (h2.trans h3) (Ahead.irrefl _)
 ·intro j hj
  exact e1 j (by omega)
theorem Zwx {ls:List Lf} (hr:Rise ls) (hl:2≤ls.length) (d:Nat):Same ls d↔∀j,j<d→kb ls[0]!.key j=kb ls[ls.length-1]!.key j:=by
 rw [getElem!_pos ls 0 (by omega),getElem!_pos ls (ls.length-1) (by omega)]
 constructor
 ·intro h j hj
  exact h _ (List.getElem_mem _) _ (List.getElem_mem _) j hj
 ·intro h
  have hall:∀x∈ls,∀j,j<d→kb ls[0].key j=kb x.key j:=by
   intro x hx j hj
   obtain ⟨i,hi,rfl⟩:=List.mem_iff_getElem.1 hx
   by_cases h0:i=0
   ·subst h0
    rfl
   ·by_cases h1:i=ls.length-1
    ·subst h1
     exact h j hj
    ·exact Yjp (List.pairwise_iff_getElem.1 hr 0 i (by omega) hi (by omega)) (List.pairwise_iff_getElem.1 hr i (ls.length-1) hi (by omega) (by omega)) h j hj
  intro x hx y hy j hj
  rw [← hall x hx j hj,hall y hy j hj]
theorem Yca {ls:List Lf} (h:ls.length≤1) (d:Nat):Same ls d:=by
 match ls,h with
 | [],_=>intro a ha;simp at ha
 | [x],_=>
  intro a ha b hb j _
  have h1:a=x:=by simpa using ha
  have h2:b=x:=by simpa using hb
  rw [h1,h2]
set_option maxHeartbeats 2000000 in
theorem Ztx (a:Option Addr) (m cap:Nat) (d:Int) (w:World) (hm:m≤1):Calls Tryz.prog 172 #[.slice a m cap,.int .i64 d] w fun e w'=>e=.returned (.bool false)∧Below w.heap.size w w':=by
 have h1: ¬(1:Int)<(m:Int):=by omega
 have h2:decide ((1:Int)<(m:Int))=false:=decide_eq_false h1
 go_enter Tryz.func172,Tryz.ntmps172
 go_wp2_with fail
 have d0:Below w.heap.size w w.drew:=(Below.refl _ _).drew
 refine wp_region_held_drew (S:=fun _=>True) (by kernel_rfl) (trivial) (fun hHeld=>?_)
 refine tkp 0 (.slice a m cap) hHeld ?_
 simp only [zq]
 refine tkp 1 (.int .i64 m) hHeld ?_
 simp only [zq]
 refine tkp 2 (.bool false) hHeld ?_
 simp only [zq]
 refine tkp 3 (.bool false) hHeld ?_
 simp only [zq]
 refine tks 4 hHeld ?_
 simp only [zq]
 refine tks 5 hHeld ?_
 simp only [zq]
 refine tks 6 hHeld ?_
 simp only [zq]
 refine tks 7 hHeld ?_
 simp only [zq]
 refine tks 8 hHeld ?_
 simp only [zq]
 refine tks 9 hHeld ?_
 simp only [zq]
 refine tks 10 hHeld ?_
 simp only [zq]
 refine tks 11 hHeld ?_
 simp only [zq]
 refine tks 12 hHeld ?_
 simp only [zq]
 refine tks 13 hHeld ?_
 simp only [zq]
 refine tks 14 hHeld ?_
 simp only [zq]
 refine tks 15 hHeld ?_
 simp only [zq]
 refine tks 16 hHeld ?_
 simp only [zq]
 refine tks 17 hHeld ?_
 simp only [zq]
 refine tkp 18 (.bool false) hHeld ?_
 simp only [zq]
 refine tkp 19 (.bool false) hHeld ?_
 simp only [zq]
 refine wpAnyH_done (by kernel_rfl) ?_ _
 go_wp2_with fail
 go_ret
 exact ⟨rfl,d0⟩
set_option maxHeartbeats 4000000 in
theorem Zpn (g off m cap:Nat) (x y:Lf) (d:Int) (b:Bool) (w:World) (hm:2≤m) (hm2:m≤4096) (h0:w.rangeAt g off (encLf x)) (h1:w.rangeAt g (off+(m-1) * 129) (encLf y)) (hb:b=true↔Und x.key y.key d):
  Calls Tryz.prog 172 #[.slice (some ⟨g,off,none⟩) m cap,.int .i64 d] w fun e w'=>e=.returned (.bool (!b))∧Below w.heap.size w w':=by
 have HU:Hid (∀w',Calls Tryz.prog 185 #[.agg (B x.key),.agg (B y.key),.int .i64 d] w' fun e w''=>e=.returned (.bool b)∧Below w'.heap.size w' w''):=fun w'=>Zra x.key y.key d b w' x.hk y.hk hb
 have HS:Hid (∀w',Below w.heap.size w w'→w'.rangeAt g (off+1) (B x.key).toList∧w'.rangeAt g (off+(m-1) * 129+1) (B y.key).toList):=fun w' hw'=>⟨Zbh (Zrx h0) hw',Zbh (Zrx h1) hw'⟩
 have HLX:Hid ((Tryz.prog.info? 34).map (·.size)=some (B x.key).toList.length):=by show _=_;rw [Zaf,List.length_map,x.hk.1];exact Zcn
 have HLY:Hid ((Tryz.prog.info? 34).map (·.size)=some (B y.key).toList.length):=by show _=_;rw [Zaf,List.length_map,y.hk.1];exact Zcn
 obtain ⟨K,hK⟩:∃K,K=x.key:=⟨_,rfl⟩
 obtain ⟨J,hJ⟩:∃J,J=y.key:=⟨_,rfl⟩
 rw [← hK] at HU HS HLX
 rw [← hJ] at HU HS HLY
 obtain ⟨q,rfl⟩:∃q,m=q+1:=⟨m-1,by omega⟩
 rw [show q+1-1=q by omega] at HS
 have g1:(1:Int)<((q+1:Nat):Int):=by omega
 have g2:decide ((1:Int)<((q+1:Nat):Int))=true:=decide_eq_true g1
 have i0:(0:Int)<((q+1:Nat):Int):=by omega
 have i1:IntKind.i64.wrap (((q+1:Nat):Int)-1)=(q:Int):=by rw [IntKind.wrap_i64];omega
 have i2:(q:Int)<((q+1:Nat):Int):=by omega
 have i3:(0:Int)≤(q:Int):=by omega
 have d0:Below w.heap.size w w.drew:=(Below.refl _ _).drew
 obtain ⟨m,hmm⟩:∃m,m=q+1:=⟨_,rfl⟩
 have hm0: ¬m=0:=by omega
 rw [← hmm] at g1 g2 i0 i1 i2 ⊢
 clear h0 h1 hb hK hJ hm hm2 hmm
 go_enter Tryz.func172,Tryz.ntmps172
 go_wp2_with fail
 refine wp_region_held_drew (S:=fun w'=>w'.rangeAt g (off+1) (B K).toList∧w'.rangeAt g (off+q * 129+1) (B J).toList) (by kernel_rfl) (HS.out _ d0) (fun hHeld=>?_)
 refine tkp 0 (.slice (some ⟨g,off,none⟩) m cap) hHeld ?_
 simp only [zq]
 refine tkp 1 (.int .i64 m) hHeld ?_
 simp only [zq]
 refine tkp 2 (.bool true) hHeld ?_
 simp only [zq]
 refine tkp 3 (.bool true) hHeld ?_
 simp only [zq]
 refine tkp 4 (.slice (some ⟨g,off,none⟩) m cap) hHeld ?_
 simp only [zq]
 refine tkp 5 (.pointer (some ⟨g,off,none⟩)) hHeld ?_
 simp only [zq]
 refine tkp 6 (.pointer (some ⟨g,off+1,none⟩)) hHeld ?_
 simp only [zq]
 refine tkg 7 (.agg (B K)) rfl (yieldsIf_load_mid rfl 34 (.tmp 11) rfl g (off+1) rfl (B K).toList _ (fun w hS=>hS.1) Tryz.underlying34 rfl HLX.out) hHeld ?_
 simp only [zq]
 refine tkp 8 (.slice (some ⟨g,off,none⟩) m cap) hHeld ?_
 simp only [zq]
 refine tkp 9 (.slice (some ⟨g,off,none⟩) m cap) hHeld ?_
 simp only [zq]
 refine tkp 10 (.int .i64 m) hHeld ?_
 simp only [zq]
 refine tkp 11 (.int .i64 q) hHeld ?_
 simp only [zq]
 refine tkp 12 (.pointer (some ⟨g,off+q * 129,none⟩)) hHeld ?_
 simp only [zq]
 refine tkp 13 (.pointer (some ⟨g,off+q * 129+1,none⟩)) hHeld ?_
 simp only [zq]
 refine tkg 14 (.agg (B J)) rfl (yieldsIf_load_mid rfl 34 (.tmp 18) rfl g (off+q * 129+1) rfl (B J).toList _ (fun w hS=>hS.2) Tryz.underlying34 rfl HLY.out) hHeld ?_
 simp only [zq]
 refine tkp 15 (.int .i64 d) hHeld ?_
 simp only [zq]
 refine wpAnyH_ready (rs:=[16]) (by kernel_rfl) (by simp) ?_
 refine AllReadyH.cons rfl (fun KQ hK=>?_) AllReadyH.nil
 go_simp
 refine (HU.out _).mono ?_
 rintro e x1 ⟨rfl,a1⟩
 have d1:=Zb d0 a1
 refine hK.out _ _ (HS.out _ d1) (fun hHeld=>?_)
 clear hK KQ
 refine tkp 17 (.bool (!b)) hHeld ?_
 simp only [zq]
 refine tkp 18 (.bool (!b)) hHeld ?_
 simp only [zq]
 refine tkp 19 (.bool (!b)) hHeld ?_
 simp only [zq]
 refine wpAnyH_done (by kernel_rfl) ?_ _
 go_wp2_with fail
 go_ret
 exact ⟨rfl,d1⟩
theorem Zty (v:Value) (ls:List Lf) (d:Nat) (b:Bool) (w:World) (hv:LvAt w v ls) (hr:Rise ls) (hn:ls.length≤4096) (hd:d≤256) (hb:b=true↔Same ls d):
  Calls Tryz.prog 172 #[v,.int .i64 d] w fun e w'=>e=.returned (.bool (!b))∧Below w.heap.size w w':=by
 obtain ⟨a,cap,rfl,hc,h⟩:=hv
 by_cases hl:ls.length≤1
 ·have:b=true:=hb.2 (Yca hl d)
  subst this
  exact Ztx a ls.length cap d w hl
 ·obtain ⟨g,off,rfl,hrr⟩:=h (by omega)
  have h0:=hrr 0 (by omega)
  rw [Nat.zero_mul,Nat.add_zero] at h0
  refine Zpn g off ls.length cap ls[0]! ls[ls.length-1]! d b w (by omega) hn h0 (hrr (ls.length-1) (by omega)) ?_
  rw [hb,Zwx hr (by omega) d]
  exact ⟨fun h=>⟨by omega,by omega,fun j hj=>h j (by omega)⟩,fun h j hj=>h.2.2 j (by omega)⟩
def SameE (es:List Ent) (d:Nat):Prop:=∀a∈es,∀b∈es,∀j,j<d→kb a.1 j=kb b.1 j
theorem Zrj {es:List Ent} {ls:List Lf} {d:Nat} (hk:∀e∈es,Key e.1) (hp:ls.Perm (es.map mkLf)):Same ls d↔SameE es d:=by
 constructor
 ·intro h a ha b hb j hj
  have h1:=h (mkLf a) (hp.mem_iff.2 (List.mem_map_of_mem ha)) (mkLf b) (hp.mem_iff.2 (List.mem_map_of_mem hb)) j hj
  rwa [Zbz (hk a ha),Zbz (hk b hb)] at h1
 ·intro h x hx y hy j hj
  obtain ⟨a,ha,rfl⟩:=List.mem_map.1 (hp.mem_iff.1 hx)
  obtain ⟨b,hb,rfl⟩:=List.mem_map.1 (hp.mem_iff.1 hy)
  rw [Zbz (hk a ha),Zbz (hk b hb)]
  exact h a ha b hb j hj
inductive RootIs (es:List Ent) (d:Int):List Int→Int→Prop
 | out:(d<0∨256<d)→RootIs es d z32 2
 | bad (E:Int):0≤d→d≤256→errB es=E→E≠0→RootIs es d z32 E
 | part:0≤d→d≤256→errB es=0→ ¬SameE es d.toNat→RootIs es d z32 2
 | good:0≤d→d≤256→errB es=0→SameE es d.toNat→RootIs es d (rt (256-d.toNat) d.toNat es) 0
theorem RootIs.one {es:List Ent} {d:Int} {h h':List Int} {e e':Int} (p:RootIs es d h e) (q:RootIs es d h' e'):h=h'∧e=e':=by
 cases p <;> cases q <;> first | exact ⟨rfl,rfl⟩ | (exfalso;omega) | (exfalso;contradiction) | (refine ⟨rfl,?_⟩;omega) | skip
theorem RootIs.len {es:List Ent} {d:Int} {h:List Int} {e:Int} (p:RootIs es d h e):h.length=32:=by
 cases p with
 | out _=>rfl
 | bad _ _ _ _ _=>rfl
 | part _ _ _ _=>rfl
 | good _ _ _ _=>
  match hn:256-d.toNat,es with
  | _,[]=>rw [Yfr];exact Zr _
  | _,[x]=>rw [Zrm];exact Zr _
  | 0,_::_::_=>exact Zr _
  | n+1,a::b::l=>rw [Ziv n _ _ (by simp)];exact Zr _
set_option maxHeartbeats 2000000 in
theorem Zva (v:Value) (V:Nat→Value) (es:List Ent) (d:Int) (w:World) (hv:PrAt w v V es) (hd:d<0∨256<d):
  Calls Tryz.prog 130 #[v,.int .i64 d] w fun e w'=>e=.returned (.tuple #[.agg (B z32),.int .i64 2])∧Below w.heap.size w w':=by
 obtain ⟨a,cap,rfl,_,_,_⟩:=hv
 have HB:Hid (Tryz.prog.built 121 []=some (B z32)):=Zhe
 by_cases h0:d<0
 ·have t0:decide (d<0)=true:=decide_eq_true h0
  clear hd
  go_enter Tryz.func130,Tryz.ntmps130
  go_wp2_with (first
   |((with_reducible refine Zv 4 ?_);refine Zg _ rfl _ rfl _ Zab ?_;intro w1 g1 hg1 hl1 B1 b1)
   |((with_reducible refine Zqr ?_);refine Zai _ rfl _ _ rfl _ (by rw [List.map_toArray];exact HB.out) ?_)
   |((with_reducible refine Zah 4 ?_);refine Zf _ rfl _ _ _ rfl g1 _ (B z32) rfl rfl B1 (by kernel_rfl) rfl (Zbe _) ?_;intro w3 B3 r3))
  exact bodyPost_ret (v:=.tuple #[.agg (B z32),.int .i64 2]) (Zac rfl _ _ g1 _ _ _ _ rfl rfl B3 Tryz.underlying121 (by kernel_rfl)) rfl ⟨rfl,Ze b1 r3 hg1⟩
 ·have h1:256<d:=by omega
  have t0:decide (d<0)=false:=decide_eq_false h0
  have t1:decide (256<d)=true:=decide_eq_true h1
  clear hd
  go_enter Tryz.func130,Tryz.ntmps130
  go_wp2_with (first
   |((with_reducible refine Zv 4 ?_);refine Zg _ rfl _ rfl _ Zab ?_;intro w1 g1 hg1 hl1 B1 b1)
   |((with_reducible refine Zqr ?_);refine Zai _ rfl _ _ rfl _ (by rw [List.map_toArray];exact HB.out) ?_)
   |((with_reducible refine Zah 4 ?_);refine Zf _ rfl _ _ _ rfl g1 _ (B z32) rfl rfl B1 (by kernel_rfl) rfl (Zbe _) ?_;intro w3 B3 r3))
  exact bodyPost_ret (v:=.tuple #[.agg (B z32),.int .i64 2]) (Zac rfl _ _ g1 _ _ _ _ rfl rfl B3 Tryz.underlying121 (by kernel_rfl)) rfl ⟨rfl,Ze b1 r3 hg1⟩
set_option maxHeartbeats 2000000 in
theorem Zvb (v:Value) (V:Nat→Value) (es:List Ent) (d:Nat) (w:World) (hv:PrAt w v V es) (hn:es.length≤140737488355328) (hd:d≤256) (hE:errB es≠0):
  Calls Tryz.prog 130 #[v,.int .i64 d] w fun e w'=>e=.returned (.tuple #[.agg (B z32),.int .i64 (errB es)])∧Below w.heap.size w w':=by
 have HLv:Hid (∀w',Below w.heap.size w w'→Calls Tryz.prog 171 #[v] w' fun e w''=>e=.returned (.tuple #[.slice none 0 0,.int .i64 (errB es)])∧Below w'.heap.size w' w''):=fun w' hb=>Znq v V es w' (hv.grow hb) hn hE
 obtain ⟨a,cap,rfl,_,_,_⟩:=hv
 have HB:Hid (Tryz.prog.built 121 []=some (B z32)):=Zhe
 obtain ⟨E,hEE⟩:∃E,E=errB es:=⟨_,rfl⟩
 rw [← hEE] at HLv hE ⊢
 have h1:(E != 0)=true:=by simp [hE]
 have h2:(E == 0)=false:=by simp [hE]
 have t0:decide ((d:Int)<0)=false:=decide_eq_false (by omega)
 have t1:decide ((256:Int)<(d:Int))=false:=decide_eq_false (by omega)
 have u0: ¬(d:Int)<0:=by omega
 have u1: ¬(256:Int)<(d:Int):=by omega
 clear hEE hE hd
 go_enter Tryz.func130,Tryz.ntmps130
 go_wp2_with (first
  |((with_reducible refine Zv 4 ?_);refine Zg _ rfl _ rfl _ Zab ?_;intro w1 g1 hg1 hl1 B1 b1)
  |(go_at_call 171;refine (HLv.out _ b1).mono ?_;rintro e w2 ⟨rfl,b2⟩;have B2:=B1.grow b2)
  |((with_reducible refine Zqr ?_);refine Zai _ rfl _ _ rfl _ (by rw [List.map_toArray];exact HB.out) ?_)
  |((with_reducible refine Zah 4 ?_);refine Zf _ rfl _ _ _ rfl g1 _ (B z32) rfl rfl B2 (by kernel_rfl) rfl (Zbe _) ?_;intro w3 B3 r3))
 exact bodyPost_ret (v:=.tuple #[.agg (B z32),.int .i64 E]) (Zac rfl _ _ g1 _ _ _ _ rfl rfl B3 Tryz.underlying121 (by kernel_rfl)) rfl ⟨rfl,Ze (Zb b1 b2) r3 hg1⟩
set_option maxHeartbeats 4000000 in
theorem Zoq (v:Value) (V:Nat→Value) (es:List Ent) (d:Nat) (b:Bool) (w:World) (hv:PrAt w v V es) (hn:es.length≤4096) (hL:Laid w) (hd:d≤256) (hE:errB es=0) (hb:b=true↔SameE es d):
  Calls Tryz.prog 130 #[v,.int .i64 d] w fun e w'=>e=.returned (.tuple #[.agg (B (if b=true then rt (256-d) d es else z32)),.int .i64 (if b=true then 0 else 2)])∧Below w.heap.size w w':=by
 have hkeys:=hv.keys
 have HL:=Za hL
 have HLv:Hid (∀w',Below w.heap.size w w'→Calls Tryz.prog 171 #[v] w' (LvPost es w')):=fun w' hbb=>Zpu v V es w' (hv.grow hbb) hn (hL.grow hbb) hE
 have HPa:Hid (∀w' x ls,LvAt w' x ls→ls.Perm (es.map mkLf)→Rise ls→Calls Tryz.prog 172 #[x,.int .i64 d] w' fun e w''=>e=.returned (.bool (!b))∧Below w'.heap.size w' w''):=fun w' x ls h1 h2 h3=>Zty x ls d b w' h1 h3 (by rw [h2.length_eq,List.length_map];exact hn) hd (by rw [hb,Zrj hkeys h2])
 have HRt:Hid (b=true→∀w' x ls,LvAt w' x ls→ls.Perm (es.map mkLf)→Rise ls→Laid w'→Calls Tryz.prog 173 #[x,.int .i64 d] w' fun e w''=>e=.returned (.agg (B (rt (256-d) d es)))∧Below w'.heap.size w' w''):=by
  intro hbt w' x ls h1 h2 h3 hl
  have h4:=Ztr (256-d) d ls x w' (by omega) (by rw [h2.length_eq,List.length_map];exact hn) h3 ((Zrj hkeys h2).2 (hb.1 hbt)) h1 hl
  rwa [Ych _ _ _ _ h2,Ykh _ _ _ (by omega) hkeys] at h4
 obtain ⟨a,cap,rfl,_,_,_⟩:=hv
 have HB:Hid (Tryz.prog.built 121 []=some (B z32)):=Zhe
 have t0:decide ((d:Int)<0)=false:=decide_eq_false (by omega)
 have t1:decide ((256:Int)<(d:Int))=false:=decide_eq_false (by omega)
 have u0: ¬(d:Int)<0:=by omega
 have u1: ¬(256:Int)<(d:Int):=by omega
 obtain ⟨D,hD⟩:∃D,D=rt (256-d) d es:=⟨_,rfl⟩
 have HF:Hid (b=true→(Tryz.prog.info? 121).map (·.size)=some (B D).size∧(B (List.replicate 32 0)).size=(B D).size):=fun hbt=>Zds D (by
  rw [hD]
  exact (RootIs.good (es:=es) (d:=(d:Int)) (by omega) (by omega) hE (by simpa using hb.1 hbt)).len)
 rw [← hD] at HRt ⊢
 clear hb hE hd hD hkeys hL
 cases b with
 | false=>
  go_enter Tryz.func130,Tryz.ntmps130
  go_wp2_with (first
   |((with_reducible refine Zv 4 ?_);refine Zg _ rfl _ rfl _ Zab ?_;intro w1 g1 hg1 hl1 B1 b1)
   |(go_at_call 171;refine (HLv.out _ b1).mono ?_;rintro e w2 ⟨x,ls,rfl,p1,p2,p3,b2⟩;have B2:=B1.grow b2;have P1:=Za p1;have P2:=Za p2;have P3:=Za p3;clear p1 p2 p3)
   |(go_at_call 172;refine (HPa.out _ _ _ P1.out P2.out P3.out).mono ?_;rintro e w3 ⟨rfl,b3⟩;have B3:=B2.grow b3)
   |((with_reducible refine Zqr ?_);refine Zai _ rfl _ _ rfl _ (by rw [List.map_toArray];exact HB.out) ?_)
   |((with_reducible refine Zah 4 ?_);refine Zf _ rfl _ _ _ rfl g1 _ (B z32) rfl rfl B3 (by kernel_rfl) rfl (Zbe _) ?_;intro w4 B4 r4))
  exact bodyPost_ret (v:=.tuple #[.agg (B z32),.int .i64 2]) (Zac rfl _ _ g1 _ _ _ _ rfl rfl B4 Tryz.underlying121 (by kernel_rfl)) rfl ⟨rfl,Ze (Zb (Zb b1 b2) b3) r4 hg1⟩
 | true=>
  have HF1:=Za (HF.out rfl)
  have HR1:=Za (HRt.out rfl)
  clear HF HRt
  go_enter Tryz.func130,Tryz.ntmps130
  go_wp2_with (first
   |((with_reducible refine Zv 4 ?_);refine Zg _ rfl _ rfl _ Zab ?_;intro w1 g1 hg1 hl1 B1 b1)
   |(go_at_call 171;refine (HLv.out _ b1).mono ?_;rintro e w2 ⟨x,ls,rfl,p1,p2,p3,b2⟩;have B2:=B1.grow b2;have P1:=Za p1;have P2:=Za p2;have P3:=Za p3;clear p1 p2 p3)
   |(go_at_call 172;refine (HPa.out _ _ _ P1.out P2.out P3.out).mono ?_;rintro e w3 ⟨rfl,b3⟩;have B3:=B2.grow b3;have c3:=Zb (Zb b1 b2) b3)
   |(go_at_call 173;refine (HR1.out _ _ _ (P1.out.grow b3) P2.out P3.out (HL.out.grow c3)).mono ?_;rintro e w5 ⟨rfl,b5⟩;have B5:=B3.grow b5)
   |((with_reducible refine Zah 4 ?_);refine Zf _ rfl _ _ _ rfl g1 _ (B D) rfl rfl B5 HF1.out.1 HF1.out.2 (Zbe _) ?_;intro w4 B4 r4))
  exact bodyPost_ret (v:=.tuple #[.agg (B D),.int .i64 0]) (Zac rfl _ _ g1 _ _ _ _ rfl rfl B4 Tryz.underlying121 HF1.out.1) rfl ⟨rfl,Ze (Zb c3 b5) r4 hg1⟩
end Go.Proofs.YtgfdgjkbcdmboaaGreatDoor
