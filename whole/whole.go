// Package whole has no code of the program: its tests hold the layers, on drawn logs and worlds, against a plain second telling of their chapters, and against what the document's whole promises; and the program's files against the rules of its language.
package whole
